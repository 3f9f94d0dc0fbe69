/- wal's Add, whole; the walk of wal's first. -/
import Derived.Test.YtohnfogdalnilaaDoorWf
import Derived.Test.YtohnfogdalnilaaDoorTj
namespace Go.Proofs.YtohnfogdalnilaaDoor
open Go.RowKit
open Dk (File Disk)

theorem add_own (U : Nat → Prop) (w0 : World) (S : Nat → Prop) (w : World) (b : Nat) (d : Disk) (n : Int) (ao : Option Addr) (m c : Nat) (body : List UInt8) (hO : Own U w0 S w b d) (htw : Tab w) (hww : 0 < w.heap.size) (hs : ∀ w', Below w.heap.size w w' → Src w' ao m c body) (hdn : d.done ≤ 4611686018427380000) :
    Calls Tryd.prog 9 #[.pointer (some ⟨b, 0, none⟩), .int .i64 n, .slice ao m c] w fun e w' => ∃ S', e = .returned (.int .i64 ((walAdd d n body).1 : Int)) ∧ Own U w0 S' w' b (walAdd d n body).2 := by
  have hlen : body.length = m := (hs w (Below.refl _ _)).len
  unfold walAdd
  cases hseg : isSeg n with
  | false =>
    rw [if_pos (.inl rfl)]
    refine (add_bad b n ao m c w htw hww hseg).mono ?_
    rintro e w' ⟨rfl, hb⟩
    exact ⟨S, rfl, hO.next hb⟩
  | true =>
    rcases Nat.lt_or_ge 1048576 m with hm | hm
    · rw [if_pos (.inr (by omega))]
      refine (add_long b n ao m c w htw hww hseg hm).mono ?_
      rintro e w' ⟨rfl, hb⟩
      exact ⟨S, rfl, hO.next hb⟩
    · rw [if_neg (by rintro (h | h); cases h; omega)]
      cases hd : d.dark with
      | true =>
        rw [if_pos rfl]
        refine (add_dark S b d n ao m c w htw hww hseg hm hO.mem hd).mono ?_
        rintro e w' ⟨rfl, hb⟩
        exact ⟨S, rfl, hO.next hb⟩
      | false =>
        rw [if_neg (by simp)]
        by_cases hf : (d.cap : Int) - (Dk.used d.files : Int) < (roomOf d (segName n) (frame body).length : Int)
        · rw [if_pos hf]
          refine (add_full S b d n ao m c w htw hww hseg hm hO.mem body hs hd hf).mono ?_
          rintro e w' ⟨rfl, hb⟩
          exact ⟨S, rfl, hO.next hb⟩
        · rw [if_neg hf]
          exact add_go S b d n ao m c w htw hww hseg hm U w0 hO body hs hd hf hdn

/-- How many bytes first cuts off. -/
def firstLen (l : List UInt8) : Nat :=
  match takeNum (l.take 9) with
  | none => 0
  | some (n, r) => min l.length ((l.take 9).length - r.length + 4 + n)
set_option maxHeartbeats 1000000 in
set_option maxRecDepth 100000 in
theorem first_any (ao : Option Addr) (m c : Nat) (l : List UInt8) (w : World) (hm : m ≤ 140737488355328) (hs : Src w ao m c l) :
    Calls Tryd.prog 28 #[.slice ao m c] w fun e w' => ∃ ao' c', e = .returned (.slice ao' (firstLen l) c') ∧ firstLen l ≤ m ∧ (∀ w2, Below w.heap.size w w2 → Src w2 ao' (firstLen l) c' (l.take (firstLen l))) ∧ Below w.heap.size w w' := by
  have HS := keep hs
  have hll := hs.len
  have hcap := hs.cap
  have HH := keep (hs.head (min m 9) (Nat.min_le_left _ _))
  have htk : l.take (min m 9) = l.take 9 := by
    rcases Nat.le_total m 9 with h | h
    · rw [Nat.min_eq_left h, List.take_of_length_le (by omega), List.take_of_length_le (by omega)]
    · rw [Nat.min_eq_right h]
  rw [htk] at HH
  obtain ⟨k, hk⟩ : ∃ k, min m 9 = k := ⟨_, rfl⟩
  rw [hk] at HH
  have hkl : (l.take 9).length = k := HH.out.len
  have TK := keep (takeNum_any ao k c (l.take 9) w (by omega) HH.out)
  clear hs htk
  have hmn : min (m : Int) 9 = (k : Int) := by omega
  have hkm : k ≤ m := by omega
  have hk9 : k ≤ 9 := by omega
  have hkm2 : (k : Int) ≤ (m : Int) := by omega
  clear hk
  go_enter Tryd.func28, Tryd.ntmps28
  go_wp2_with fail
  refine TK.out.mono ?_
  rintro e w1 (⟨n, r, v, ht, rfl, hv⟩ | ⟨ht, rfl, hb⟩)
  · have hf : firstLen l = min m (k - r.length + 4 + n) := by unfold firstLen; rw [ht, hll]; simp only [hkl]
    have hn := (takeNum_some ht).1
    have hrl : r.length ≤ k := by
      have := congrArg List.length (takeNum_some ht).2
      rw [List.length_append, hkl] at this
      omega
    have B1 := keep hv.2
    obtain ⟨a1, c1, rfl, _, _⟩ := hv.src
    obtain ⟨R, hR⟩ : ∃ R, r.length = R := ⟨_, rfl⟩
    rw [hR] at hrl hf ⊢
    obtain ⟨Z, hZ⟩ : ∃ Z, k - R + 4 + n = Z := ⟨_, rfl⟩
    obtain ⟨q, hq⟩ : ∃ q, min m Z = q := ⟨_, rfl⟩
    rw [hZ, hq] at hf
    have e1 : IntKind.i64.wrap ((k : Int) - (R : Int)) = (k : Int) - (R : Int) := wrap_small _ (by omega) (by omega)
    have e2 : IntKind.i64.wrap ((k : Int) - (R : Int) + 4) = (k : Int) - (R : Int) + 4 := wrap_small _ (by omega) (by omega)
    have e3 : IntKind.i64.wrap ((k : Int) - (R : Int) + 4 + (n : Int)) = (Z : Int) := by rw [IntKind.wrap_i64]; omega
    have e4 : min (m : Int) (Z : Int) = (q : Int) := by omega
    have hqm : q ≤ m := by omega
    have hqm2 : (q : Int) ≤ (m : Int) := by omega
    have HF := keep hf
    clear hv ht hn hR hZ hq hf TK HH hmn
    go_wp2
    go_ret
    rw [HF.out]
    exact ⟨ao, c, rfl, hqm, fun w2 hb2 => (HS.out.below hb2).head q hqm, B1.out⟩
  · have hf : firstLen l = 0 := by unfold firstLen; rw [ht]
    have B1 := keep hb
    clear ht hb TK HH hmn
    go_wp2
    go_ret
    rw [hf]
    exact ⟨none, 0, rfl, Nat.zero_le _, fun w2 _ => Src.none_of rfl (fun _ => rfl), B1.out⟩
end Go.Proofs.YtohnfogdalnilaaDoor
