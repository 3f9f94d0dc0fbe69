/- The walk of the document's TakeText once more: what it answers lies in a block of bytes; what both take, as one answer. -/
import Derived.Test.YtlhblbaingojaabRu
import Derived.Test.YtlhblbaingojaabTw
import Derived.Test.YtlhblbaingojaabJ0
namespace Go.Proofs.Ytlhblbaingojaab
open Go.RowKit

theorem in5_add {w : World} {ad : Addr} (h : In5 w (some ad)) (n : Nat) : In5 w (some (ad.add n)) := fun a ha => by
  cases ha
  obtain ⟨cur, fr, hc⟩ := h ad rfl
  refine ⟨cur, fr, ?_⟩
  have hblk : (ad.add n).block = ad.block := by unfold Addr.add; split <;> rfl
  rw [hblk]
  exact hc
theorem rtakeNum_own (ao : Option Addr) (m c : Nat) (l : List UInt8) (w : World) (hm : m ≤ 140737488355328) (hs : Src w ao m c l) : Calls Try.prog 34 #[.slice ao m c] w (TookN w (nOf l) (rOf l) (eOf l)) :=
  (rtakeNum_any ao m c l w hm hs).mono fun e w' h => by
    rcases h with ⟨n, r, v, hn, rfl, hN⟩ | ⟨hn, rfl, hb⟩
    · have e1 : nOf l = n := by simp [nOf, hn]
      have e2 : rOf l = r := by simp [rOf, hn]
      have e3 : eOf l = 0 := by simp [eOf, hn]
      obtain ⟨ao, c, rfl, hs, _⟩ := hN.src
      rw [e1, e2, e3]
      exact ⟨ao, c, rfl, hs, in5_own hN.1, hN.2⟩
    · have e1 : nOf l = 0 := by simp [nOf, hn]
      have e2 : rOf l = [] := by simp [rOf, hn]
      have e3 : eOf l = 2 := by simp [eOf, hn]
      rw [e1, e2, e3]
      exact ⟨none, 0, rfl, Src.empty (fun _ => rfl), in5_none _, hb⟩
theorem rtakeNum_yesO {ao : Option Addr} {m c : Nat} {l : List UInt8} {w : World} (hm : m ≤ 140737488355328) (hs : Src w ao m c l) {n : Nat} {r : List UInt8} (hn : takeNum l = some (n, r)) :
    Calls Try.prog 34 #[.slice ao m c] w fun e w' => ∃ a1 c1, e = .returned (.tuple #[.int .i64 (n : Int), .slice a1 r.length c1, .int .i64 0]) ∧ Src w' a1 r.length c1 r ∧ In5 w' a1 ∧ Below w.heap.size w w' :=
  (rtakeNum_any ao m c l w hm hs).mono fun e w' h => by
    rcases h with ⟨n', r', v, h1, rfl, hN⟩ | ⟨h1, _⟩
    · rw [hn] at h1
      cases h1
      obtain ⟨a1, c1, rfl, hs1, _⟩ := hN.src
      exact ⟨a1, c1, rfl, hs1, in5_own hN.1, hN.2⟩
    · rw [hn] at h1; cases h1
set_option maxHeartbeats 1000000 in
set_option maxRecDepth 100000 in
theorem rtakeTextO_none (ao : Option Addr) (m c : Nat) (l : List UInt8) (most : Int) (w : World) (hm : m ≤ 140737488355328) (hs : Src w ao m c l) (hn : takeNum l = none) :
    Calls Try.prog 35 #[.slice ao m c, .int .i64 most] w (TookO w (txt l most)) := by
  have KR := keep (rtakeNum_no hm hs hn)
  have HT := keep (txt_none (most := most) hn)
  clear hs hn
  go_enter Try.func35, Try.ntmps35
  go_wp2_with fail
  go_fit KR.out
  rintro e w1 ⟨rfl, hb1⟩
  have b1 := keep hb1
  clear hb1 KR
  go_wp2
  go_ret3
  exact tookO_no HT.out b1.out

set_option maxHeartbeats 1000000 in
set_option maxRecDepth 100000 in
theorem rtakeTextO_short (ao : Option Addr) (m c : Nat) (l : List UInt8) (most : Int) (w : World) (n : Nat) (r : List UInt8) (hm : m ≤ 140737488355328) (hs : Src w ao m c l) (hn : takeNum l = some (n, r)) (hno : ¬ ((n : Int) ≤ most ∧ n ≤ r.length)) :
    Calls Try.prog 35 #[.slice ao m c, .int .i64 most] w (TookO w (txt l most)) := by
  have KR := keep (rtakeNum_yesO hm hs hn)
  have HT := keep (txt_no (most := most) hn hno)
  clear hs hn
  obtain ⟨x, hx⟩ : ∃ x, r.length = x := ⟨_, rfl⟩
  rw [hx] at KR hno
  clear hx
  go_enter Try.func35, Try.ntmps35
  go_wp2_with fail
  go_fit KR.out
  rintro e w1 ⟨a1, c1, rfl, _, _, hb1⟩
  have b1 := keep hb1
  clear hb1 KR
  by_cases h1 : (n : Int) ≤ most
  · have h2 : (x : Int) < (n : Int) := by omega
    go_wp2
    go_ret3
    exact tookO_no HT.out b1.out
  · have h2 : most < (n : Int) := by omega
    go_wp2
    go_ret3
    exact tookO_no HT.out b1.out

set_option maxHeartbeats 1000000 in
set_option maxRecDepth 100000 in
theorem rtakeTextO_main (ao : Option Addr) (m c : Nat) (l : List UInt8) (most : Int) (w : World) (n : Nat) (r : List UInt8) (hm : m ≤ 140737488355328) (hs : Src w ao m c l) (hn : takeNum l = some (n, r)) (h1 : (n : Int) ≤ most) (h2 : n ≤ r.length) :
    Calls Try.prog 35 #[.slice ao m c, .int .i64 most] w (TookO w (txt l most)) := by
  have KR := keep (rtakeNum_yesO hm hs hn)
  have HT := keep (txt_yes (most := most) hn ⟨h1, h2⟩)
  clear hs hn
  obtain ⟨x, hx⟩ : ∃ x, r.length = x := ⟨_, rfl⟩
  have HX := keep hx
  rw [hx] at KR h2
  clear hx
  have g1 : ¬ (most < (n : Int)) := by omega
  have g2 : ¬ ((x : Int) < (n : Int)) := by omega
  have h0 : (0 : Int) ≤ (n : Int) := by omega
  go_enter Try.func35, Try.ntmps35
  go_wp2_with fail
  go_fit KR.out
  rintro e w1 ⟨a1, c1, rfl, hs1, h51, hb1⟩
  have V1 := keep h51
  have b1 := keep hb1
  have hcap := hs1.cap
  have S1 := keep hs1
  have hcv := conv_src ((hs1.head n h2).below (Below.refl _ _).drew)
  clear hb1 KR hs1 h51
  have hlen : Hid ((r.drop n).length = x - n) := by rw [List.length_drop, HX.out]; exact rfl
  cases a1 with
  | none =>
    obtain ⟨rfl, rfl⟩ := S1.out.nil rfl
    obtain rfl : n = 0 := by omega
    go_wp2_with fail
    go_region
    all_goals go_wp2
    all_goals go_ret3
    all_goals exact tookO_yes HT.out hlen.out (Src.none_of (by rw [hlen.out]) (fun _ => rfl)) (in5_none _) b1.out.drew
  | some ad =>
    by_cases hck : n = c1
    · subst hck
      have S2 : Hid (Src w1 (some ad) 0 0 (r.drop n)) := Src.none_of (by rw [hlen.out]; omega) (fun e => by cases e)
      have hx0 : Hid ((r.drop n).length = 0) := by rw [hlen.out]; show _ = _; omega
      go_wp2_with fail
      go_region
      all_goals go_wp2
      all_goals go_ret3
      all_goals exact tookO_yes HT.out hx0.out (S2.out.below (Below.refl _ _).drew) V1.out b1.out.drew
    · have S2 : Hid (Src w1 (some (ad.add n)) (x - n) (c1 - n) (r.drop n)) := S1.out.tail n h2
      go_wp2_with fail
      go_region
      all_goals go_wp2
      all_goals go_ret3
      all_goals exact tookO_yes HT.out hlen.out (S2.out.below (Below.refl _ _).drew) (in5_add V1.out n) b1.out.drew
theorem rtakeTextO_any (ao : Option Addr) (m c : Nat) (l : List UInt8) (most : Int) (w : World) (hm : m ≤ 140737488355328) (hs : Src w ao m c l) :
    Calls Try.prog 35 #[.slice ao m c, .int .i64 most] w (TookO w (txt l most)) := by
  cases hn : takeNum l with
  | none => exact rtakeTextO_none ao m c l most w hm hs hn
  | some x =>
    obtain ⟨n, r⟩ := x
    by_cases hno : (n : Int) ≤ most ∧ n ≤ r.length
    · exact rtakeTextO_main ao m c l most w n r hm hs hn hno.1 hno.2
    · exact rtakeTextO_short ao m c l most w n r hm hs hn hno
/-- Whether bytes begin with a text. -/
def tE (b : List UInt8) (most : Int) : Int := if (txt b most).isSome then 0 else 2
theorem rtakeText_uni (ao : Option Addr) (m c : Nat) (l : List UInt8) (most : Int) (w : World) (hm : m ≤ 140737488355328) (hs : Src w ao m c l) :
    Calls Try.prog 35 #[.slice ao m c, .int .i64 most] w fun e w' => ∃ a k, e = .returned (.tuple #[.string ⟨(Bq.tS l most).toArray⟩, .slice a (Bq.tR l most).length k, .int .i64 (tE l most)]) ∧ Src w' a (Bq.tR l most).length k (Bq.tR l most) ∧ In5 w' a ∧ Below w.heap.size w w' := by
  refine (rtakeTextO_any ao m c l most w hm hs).mono ?_
  rintro e w' (⟨S, R, a, c, ht, rfl, hs, h5, hb⟩ | ⟨ht, rfl, hb⟩)
  · have e1 : Bq.tS l most = S := by simp [Bq.tS, ht]
    have e2 : Bq.tR l most = R := by simp [Bq.tR, ht]
    have e3 : tE l most = 0 := by simp [tE, ht]
    rw [e1, e2, e3]
    exact ⟨a, c, rfl, hs, h5, hb⟩
  · have e1 : Bq.tS l most = [] := by simp [Bq.tS, ht]
    have e2 : Bq.tR l most = [] := by simp [Bq.tR, ht]
    have e3 : tE l most = 2 := by simp [tE, ht]
    rw [e1, e2, e3]
    exact ⟨none, 0, rfl, src_nil w', in5_none _, hb⟩
end Go.Proofs.Ytlhblbaingojaab
