/- The walk of the document's TakeFrame. -/
import Derived.Test.YticglckbjdchjaaRg
import Derived.Test.YticglckbjdchjaaRu
import Derived.Test.YticglckbjdchjaaTj
namespace Go.Proofs.Yticglckbjdchjaa
open Go.RowKit

theorem rputFrame_nil (ao2 : Option Addr) (m2 c2 : Nat) (body : List UInt8) (w : World) (hm : m2 + 13 ≤ 140737488355328) (hs2 : Src w ao2 m2 c2 body) :
    Calls Try.prog 27 #[.slice none 0 0, .slice ao2 m2 c2] w fun e w' => ∃ a c, e = .returned (.slice a (frame body).length c) ∧ New w w' (.slice a (frame body).length c) (frame body).length (frame body) :=
  (rputFrame_any none 0 0 [] ao2 m2 c2 body w (by omega) (src_nil w) hs2).mono fun e w' ⟨v, he, h⟩ => by
    simp only [Nat.zero_add, List.nil_append] at h
    obtain ⟨a, c, rfl, _, _⟩ := h.src
    exact ⟨a, c, he, h⟩
/-- Held against its own bytes, a frame is one where its sum is. -/
theorem frame_take {l r : List UInt8} {n : Nat} (hn : takeNum l = some (n, r)) (h4 : n + 4 ≤ r.length) : frame ((r.drop 4).take n) = l.take (frame ((r.drop 4).take n)).length ↔ big (r.take 4) = (crc (num n ++ (r.drop 4).take n)).toNat := by
  have hn2 := (takeNum_some hn).2
  obtain ⟨B, hB⟩ : ∃ B, (r.drop 4).take n = B := ⟨_, rfl⟩
  rw [hB]
  have hBl : B.length = n := by rw [← hB, List.length_take, List.length_drop]; omega
  have hf : frame B = num n ++ (be 4 (crc (num n ++ B)).toNat ++ B) := by unfold frame; rw [hBl]
  have h4l : (r.take 4).length = 4 := by rw [List.length_take]; omega
  have hL : (frame B).length = (num n).length + (4 + n) := by rw [frame_length, hBl]; omega
  have ht : l.take (frame B).length = num n ++ (r.take 4 ++ B) := by
    rw [hL, hn2, List.take_length_add_append, List.take_add, hB]
  rw [ht, hf]
  constructor
  · intro h
    have h2 := List.append_cancel_left h
    have h3 := (List.append_inj h2 (by rw [be_length, h4l])).1
    rw [← h3, big_be 4 _ (crc_lt _)]
  · intro h
    rw [← h]
    have := be_big (r.take 4)
    rw [h4l] at this
    rw [this]

set_option maxHeartbeats 1000000 in
set_option maxRecDepth 100000 in
theorem rtakeFrame_none (ao : Option Addr) (m c : Nat) (l : List UInt8) (most : Int) (w : World) (hm : m ≤ 140737488355328) (hs : Src w ao m c l) (hn : takeNum l = none) :
    Calls Try.prog 25 #[.slice ao m c, .int .i64 most] w (TookF w (tfr l most)) := by
  have KR := keep (rtakeNum_no hm hs hn)
  have HT := keep (tfr_none (most := most) hn)
  clear hs hn
  go_enter Try.func25, Try.ntmps25
  go_wp2_with fail
  go_fit KR.out
  rintro e w1 ⟨rfl, hb1⟩
  have b1 := keep hb1
  clear hb1 KR
  go_wp2
  go_ret3
  exact tookF_no HT.out b1.out

set_option maxHeartbeats 1000000 in
set_option maxRecDepth 100000 in
theorem rtakeFrame_short (ao : Option Addr) (m c : Nat) (l : List UInt8) (most : Int) (w : World) (n : Nat) (r : List UInt8) (hm : m ≤ 140737488355328) (hs : Src w ao m c l) (hn : takeNum l = some (n, r)) (hno : ¬ ((n : Int) ≤ most ∧ n + 4 ≤ r.length)) :
    Calls Try.prog 25 #[.slice ao m c, .int .i64 most] w (TookF w (tfr l most)) := by
  have KR := keep (rtakeNum_yes hm hs hn)
  have HT := keep (tfr_no (most := most) hn (fun h => hno ⟨h.1, h.2.1⟩))
  have hrl : r.length ≤ m := by have := congrArg List.length (takeNum_some hn).2; rw [List.length_append, hs.len] at this; omega
  clear hs hn
  obtain ⟨x, hx⟩ : ∃ x, r.length = x := ⟨_, rfl⟩
  rw [hx] at KR hno hrl
  clear hx
  go_enter Try.func25, Try.ntmps25
  go_wp2_with fail
  go_fit KR.out
  rintro e w1 ⟨a1, c1, rfl, _, hb1⟩
  have b1 := keep hb1
  clear hb1 KR
  by_cases h1 : (n : Int) ≤ most
  · have h2 : (x : Int) - 4 < (n : Int) := by omega
    go_wp2
    go_ret3
    exact tookF_no HT.out b1.out
  · have h2 : most < (n : Int) := by omega
    go_wp2
    go_ret3
    exact tookF_no HT.out b1.out

set_option maxHeartbeats 2000000 in
set_option maxRecDepth 100000 in
theorem rtakeFrame_main (ao : Option Addr) (m c : Nat) (l : List UInt8) (most : Int) (w : World) (n : Nat) (r : List UInt8) (hm : m + 13 ≤ 140737488355328) (hs : Src w ao m c l) (hn : takeNum l = some (n, r)) (h1 : (n : Int) ≤ most) (h2 : n + 4 ≤ r.length) :
    Calls Try.prog 25 #[.slice ao m c, .int .i64 most] w (TookF w (tfr l most)) := by
  have KR := keep (rtakeNum_yes (by omega) hs hn)
  have HFT := keep (frame_take hn h2)
  have HTY := keep (fun h3 => tfr_yes (most := most) hn ⟨h1, h2, h3⟩)
  have HTN := keep (fun (h3 : ¬ big (r.take 4) = (crc (num n ++ (r.drop 4).take n)).toNat) => tfr_no (most := most) hn (fun h => h3 h.2.2))
  obtain ⟨q1, q2⟩ := takeNum_some hn
  have e1 := congrArg List.length q2
  rw [List.length_append, hs.len] at e1
  obtain ⟨B, hB⟩ : ∃ B, (r.drop 4).take n = B := ⟨_, rfl⟩
  obtain ⟨R, hR⟩ : ∃ R, r.drop (4 + n) = R := ⟨_, rfl⟩
  have hBl : B.length = n := by rw [← hB, List.length_take, List.length_drop]; omega
  have hfl := frame_length B
  rw [hBl] at hfl
  rw [hB] at HFT HTY HTN
  rw [hR] at HTY
  have HB := keep hB
  have HR := keep hR
  obtain ⟨x, hx⟩ : ∃ x, r.length = x := ⟨_, rfl⟩
  have HX := keep hx
  rw [hx] at KR h2 e1
  have KP := keep (fun a c w' (h : Src w' a n c B) => rputFrame_nil a n c B w' (by omega) h)
  obtain ⟨L, hL⟩ : ∃ L, (frame B).length = L := ⟨_, rfl⟩
  rw [hL] at KP HFT hfl
  have hLm : L ≤ m := by omega
  have hxm : x ≤ m := by omega
  have HHEAD := keep (fun w' (hb : Below w.heap.size w w') => conv_src ((hs.below hb).head L hLm))
  have hcap := hs.cap
  have HRL : Hid (R.length = x - (4 + n)) := by rw [← hR, List.length_drop, hx]; exact rfl
  have HBL := keep hBl
  clear hs hn q2 hB hR hx hL hfl e1 hBl
  generalize hFB : frame B = FB at KP HFT
  clear hFB
  have g1 : ¬ (most < (n : Int)) := by omega
  have g2 : ¬ ((x : Int) - 4 < (n : Int)) := by omega
  have h0 : (0 : Int) ≤ 4 + (n : Int) := by omega
  have t1 : ((4 : Int) + (n : Int)).toNat = 4 + n := by omega
  have t3 : 4 + n - 4 = n := by omega
  have gL : (L : Int) ≤ (c : Int) := by omega
  go_enter Try.func25, Try.ntmps25
  go_wp2_with fail
  go_fit KR.out
  rintro e w1 ⟨a1, c1, rfl, hs1, hb1⟩
  have b1 := keep hb1
  have hcap1 := hs1.cap
  obtain ⟨gb, go, rfl, _, _⟩ := hs1.form (by omega)
  have SR := keep hs1
  clear hb1 KR hs1
  have f1 : (4 : Int) + (n : Int) ≤ (c1 : Int) := by omega
  have f2 : (4 : Int) ≤ 4 + (n : Int) := by omega
  by_cases hck : 4 + n < c1
  · have hck4 : ¬ (4 = c1) := by omega
    have hckn : ¬ (4 + n = c1) := by omega
    have SB : Hid (Src w1 (some ⟨gb, go + 4, none⟩) n (c1 - 4) B) := by have := (SR.out.tailS 4 (by omega)).head n (by omega); rwa [HB.out] at this
    have SE : Hid (Src w1 (some ⟨gb, go + (4 + n), none⟩) (x - (4 + n)) (c1 - (4 + n)) R) := by have := SR.out.tailS (4 + n) (by omega); rwa [HR.out] at this
    have hRl : Hid (R.length = (x - (4 + n))) := SE.out.len
    go_wp2_with fail
    go_fit (KP.out (some ⟨gb, go + 4, none⟩) (c1 - 4) w1 SB.out)
    rintro e w2 ⟨a2, c2, rfl, hn2⟩
    obtain ⟨_, _, e2, hs2, _⟩ := hn2.src
    cases e2
    have b2 := keep (b1.out.trans (hn2.2.mono b1.out.size))
    have TB := keep (SB.out.below hn2.2)
    have TE := keep (SE.out.below hn2.2)
    have hcv1 := conv_src (hs2.below (Below.refl _ _).drew)
    have hcv2 := HHEAD.out w2.drew b2.out.drew
    clear hn2 hs2 SB SE KP
    by_cases hq : FB = l.take L
    · rw [← hq] at hcv2
      have HT := keep (HTY.out (HFT.out.1 hq))
      clear hq
      go_wp2_with fail
      go_region
      all_goals go_wp2_with fail
      all_goals go_region
      all_goals go_wp2
      all_goals go_ret3
      all_goals exact tookF_yes HT.out HBL.out hRl.out (TB.out.below (Below.refl _ _).drew.drew) (TE.out.below (Below.refl _ _).drew.drew) b2.out.drew.drew
    · have HT := keep (HTN.out (fun h => hq (HFT.out.2 h)))
      obtain ⟨TL, hTL⟩ : ∃ TL, l.take L = TL := ⟨_, rfl⟩
      rw [hTL] at hcv2 hq
      clear hTL
      have hq2 : (FB == TL) = false := by rw [beq_eq_false_iff_ne]; exact hq
      go_wp2_with fail
      go_region
      all_goals go_wp2
      all_goals go_ret3
      all_goals exact tookF_no HT.out b2.out.drew
  · obtain rfl : c1 = 4 + n := by omega
    obtain rfl : x = 4 + n := by omega
    rcases Nat.eq_zero_or_pos n with hn0 | hn0
    rotate_left
    · skip
      have SB : Hid (Src w1 (some ⟨gb, go + 4, none⟩) n n B) := by have := (SR.out.tailS 4 (by omega)).head n (by omega); rwa [HB.out, t3] at this
      have SE : Hid (Src w1 (some ⟨gb, go, none⟩) 0 0 R) := Src.none_of (by rw [HRL.out]; omega) (fun e => by cases e)
      have hRl : Hid (R.length = 0) := SE.out.len
      go_wp2_with fail
      go_fit (KP.out (some ⟨gb, go + 4, none⟩) n w1 SB.out)
      rintro e w2 ⟨a2, c2, rfl, hn2⟩
      obtain ⟨_, _, e2, hs2, _⟩ := hn2.src
      cases e2
      have b2 := keep (b1.out.trans (hn2.2.mono b1.out.size))
      have TB := keep (SB.out.below hn2.2)
      have TE := keep (SE.out.below hn2.2)
      have hcv1 := conv_src (hs2.below (Below.refl _ _).drew)
      have hcv2 := HHEAD.out w2.drew b2.out.drew
      clear hn2 hs2 SB SE KP
      by_cases hq : FB = l.take L
      · rw [← hq] at hcv2
        have HT := keep (HTY.out (HFT.out.1 hq))
        clear hq
        go_wp2_with fail
        go_region
        all_goals go_wp2_with fail
        all_goals go_region
        all_goals go_wp2
        all_goals go_ret3
        all_goals exact tookF_yes HT.out HBL.out hRl.out (TB.out.below (Below.refl _ _).drew.drew) (TE.out.below (Below.refl _ _).drew.drew) b2.out.drew.drew
      · have HT := keep (HTN.out (fun h => hq (HFT.out.2 h)))
        obtain ⟨TL, hTL⟩ : ∃ TL, l.take L = TL := ⟨_, rfl⟩
        rw [hTL] at hcv2 hq
        clear hTL
        have hq2 : (FB == TL) = false := by rw [beq_eq_false_iff_ne]; exact hq
        go_wp2_with fail
        go_region
        all_goals go_wp2
        all_goals go_ret3
        all_goals exact tookF_no HT.out b2.out.drew
    · subst hn0
      have SB : Hid (Src w1 (some ⟨gb, go, none⟩) 0 0 B) := Src.none_of HBL.out (fun e => by cases e)
      have SE : Hid (Src w1 (some ⟨gb, go, none⟩) 0 0 R) := Src.none_of (by rw [HRL.out]) (fun e => by cases e)
      have hRl : Hid (R.length = 0) := SE.out.len
      go_wp2_with fail
      go_fit (KP.out (some ⟨gb, go, none⟩) 0 w1 SB.out)
      rintro e w2 ⟨a2, c2, rfl, hn2⟩
      obtain ⟨_, _, e2, hs2, _⟩ := hn2.src
      cases e2
      have b2 := keep (b1.out.trans (hn2.2.mono b1.out.size))
      have TB := keep (SB.out.below hn2.2)
      have TE := keep (SE.out.below hn2.2)
      have hcv1 := conv_src (hs2.below (Below.refl _ _).drew)
      have hcv2 := HHEAD.out w2.drew b2.out.drew
      clear hn2 hs2 SB SE KP
      by_cases hq : FB = l.take L
      · rw [← hq] at hcv2
        have HT := keep (HTY.out (HFT.out.1 hq))
        clear hq
        go_wp2_with fail
        go_region
        all_goals go_wp2_with fail
        all_goals go_region
        all_goals go_wp2
        all_goals go_ret3
        all_goals exact tookF_yes HT.out HBL.out hRl.out (TB.out.below (Below.refl _ _).drew.drew) (TE.out.below (Below.refl _ _).drew.drew) b2.out.drew.drew
      · have HT := keep (HTN.out (fun h => hq (HFT.out.2 h)))
        obtain ⟨TL, hTL⟩ : ∃ TL, l.take L = TL := ⟨_, rfl⟩
        rw [hTL] at hcv2 hq
        clear hTL
        have hq2 : (FB == TL) = false := by rw [beq_eq_false_iff_ne]; exact hq
        go_wp2_with fail
        go_region
        all_goals go_wp2
        all_goals go_ret3
        all_goals exact tookF_no HT.out b2.out.drew
theorem rtakeFrame_any (ao : Option Addr) (m c : Nat) (l : List UInt8) (most : Int) (w : World) (hm : m + 13 ≤ 140737488355328) (hs : Src w ao m c l) :
    Calls Try.prog 25 #[.slice ao m c, .int .i64 most] w (TookF w (tfr l most)) := by
  cases hn : takeNum l with
  | none => exact rtakeFrame_none ao m c l most w (by omega) hs hn
  | some x =>
    obtain ⟨n, r⟩ := x
    by_cases hno : (n : Int) ≤ most ∧ n + 4 ≤ r.length
    · exact rtakeFrame_main ao m c l most w n r hm hs hn hno.1 hno.2
    · exact rtakeFrame_short ao m c l most w n r (by omega) hs hn hno
end Go.Proofs.Yticglckbjdchjaa
