/- The walks of both sides' shared. -/
import Derived.Test.YtlhblbaingojaabJ0
import Derived.Deep.QuietTactic
import Derived.BigQuiet
import Derived.WalkSmall
namespace Go.Proofs.Ytlhblbaingojaab
open Go.RowKit
open Bq (share)

set_option maxHeartbeats 1000000 in
set_option maxRecDepth 100000 in
theorem shared_any (ao : Option Addr) (m c : Nat) (l : List UInt8) (ao2 : Option Addr) (m2 c2 : Nat) (l2 : List UInt8) (w : World) (hm : m ≤ 140737488355328) (hm2 : m2 ≤ 140737488355328) (hs : Src w ao m c l) (hs2 : Src w ao2 m2 c2 l2) :
    Calls Try.prog 40 #[.slice ao m c, .slice ao2 m2 c2] w fun e w' => e = .returned (.int .i64 (share l l2 : Int)) ∧ Below w.heap.size w w' := by
  have hl1 := hs.len
  have hl2 := hs2.len
  have HS := keep hs
  have HS2 := keep hs2
  clear hs hs2
  have SL := Bq.share_left l l2
  have SR := Bq.share_right l l2
  rw [hl1] at SL
  rw [hl2] at SR
  have SI := keep (Bq.share_iff l l2)
  obtain ⟨T, hT⟩ : ∃ T, share l l2 = T := ⟨_, rfl⟩
  rw [hT, hl1, hl2] at SI
  rw [hT] at SL SR ⊢
  clear hT hl1 hl2
  go_enter Try.func40, Try.ntmps40
  go_wp2
  go_loopw [5] (fun i wr => ∃ t : Nat, t ≤ T ∧ i = .int .i64 (t : Int) ∧ Hid (Below w.heap.size w wr)) (fun i _ => T - (intOf i).toNat)
  case atStart => exact ⟨0, Nat.zero_le _, rfl, Below.refl _ _⟩
  case round =>
    obtain ⟨t, ht, rfl, hb⟩ := hrel
    have si := SI.out t ht
    by_cases h : t < m ∧ t < m2
    · obtain ⟨h1, h2⟩ := h
      obtain ⟨b, off, rfl, hbw, hby⟩ := HS.out.form (by omega)
      obtain ⟨b2, off2, rfl, hbw2, hby2⟩ := HS2.out.form (by omega)
      have hcell : wr.cell? ⟨b, off + t, none⟩ = some (.int .u8 ((fn l t).toNat : Int)) := by
        rw [hb.out.cell (p := ⟨b, off + t, none⟩) hbw]; exact hby t h1
      have hcell2 : wr.cell? ⟨b2, off2 + t, none⟩ = some (.int .u8 ((fn l2 t).toNat : Int)) := by
        rw [hb.out.cell (p := ⟨b2, off2 + t, none⟩) hbw2]; exact hby2 t h2
      clear hby hby2
      have i0 : (0 : Int) ≤ (t : Int) := by omega
      have i1 : (t : Int) < (m : Int) := by omega
      have i2 : (t : Int) < (m2 : Int) := by omega
      have i3 : (t : Int) < (if m2 < m then (m2 : Int) else (m : Int)) := by split <;> omega
      obtain ⟨y, hy⟩ : ∃ y, fn l t = y := ⟨_, rfl⟩
      obtain ⟨z, hz⟩ : ∃ z, fn l2 t = z := ⟨_, rfl⟩
      rw [hy, hz] at si
      rw [hy] at hcell
      rw [hz] at hcell2
      clear hy hz
      by_cases hyz : y = z
      · subst hyz
        have hT : t < T := si.2 ⟨h1, h2, rfl⟩
        clear si
        go_wp2_with fail
        go_quiet (fail)
        go_wp2
        go_roundw
        case rel => exact ⟨t + 1, by omega, by go_num, below_drewN hb.out nq⟩
        case measure => simp [intOf]; omega
      · have hT : T = t := by
          have : ¬ t < T := fun h => hyz (si.1 h).2.2
          omega
        subst hT
        have hne : ¬ ((y.toNat : Int) = (z.toNat : Int)) := fun e => hyz (UInt8.toNat_inj.1 (by omega))
        clear si hyz
        go_wp2_with fail
        go_quiet (fail)
        all_goals go_wp2
        all_goals go_ret
        all_goals exact ⟨rfl, below_drewN hb.out _⟩
    · have hT : T = t := by
        have : ¬ t < T := fun h' => h ⟨(si.1 h').1, (si.1 h').2.1⟩
        omega
      subst hT
      clear si
      have i3 : ¬ (T : Int) < (if m2 < m then (m2 : Int) else (m : Int)) := by split <;> omega
      have d2 : decide ((T : Int) < (if m2 < m then (m2 : Int) else (m : Int))) = false := decide_eq_false i3
      by_cases h1 : T < m
      · have i1 : (T : Int) < (m : Int) := by omega
        have i2 : ¬ ((T : Int) < (m2 : Int)) := by omega
        have d1 : decide (T < m2) = false := decide_eq_false (by omega)
        go_wp2_with fail
        go_quiet (fail)
        all_goals go_wp2
        all_goals go_ret
        all_goals exact ⟨rfl, below_drewN hb.out _⟩
      · have i1 : ¬ ((T : Int) < (m : Int)) := by omega
        go_wp2_with fail
        go_quiet (fail)
        all_goals go_wp2
        all_goals go_ret
        all_goals exact ⟨rfl, below_drewN hb.out _⟩
set_option maxHeartbeats 1000000 in
set_option maxRecDepth 100000 in
theorem rshared_any (ao : Option Addr) (m c : Nat) (l : List UInt8) (ao2 : Option Addr) (m2 c2 : Nat) (l2 : List UInt8) (w : World) (hm : m ≤ 140737488355328) (hm2 : m2 ≤ 140737488355328) (hs : Src w ao m c l) (hs2 : Src w ao2 m2 c2 l2) :
    Calls Try.prog 24 #[.slice ao m c, .slice ao2 m2 c2] w fun e w' => e = .returned (.int .i64 (share l l2 : Int)) ∧ Below w.heap.size w w' := by
  have hl1 := hs.len
  have hl2 := hs2.len
  have HS := keep hs
  have HS2 := keep hs2
  clear hs hs2
  have SL := Bq.share_left l l2
  have SR := Bq.share_right l l2
  rw [hl1] at SL
  rw [hl2] at SR
  have SI := keep (Bq.share_iff l l2)
  obtain ⟨T, hT⟩ : ∃ T, share l l2 = T := ⟨_, rfl⟩
  rw [hT, hl1, hl2] at SI
  rw [hT] at SL SR ⊢
  clear hT hl1 hl2
  go_enter Try.func24, Try.ntmps24
  go_wp2
  go_loopw [5] (fun i wr => ∃ t : Nat, t ≤ T ∧ i = .int .i64 (t : Int) ∧ Hid (Below w.heap.size w wr)) (fun i _ => T - (intOf i).toNat)
  case atStart => exact ⟨0, Nat.zero_le _, rfl, Below.refl _ _⟩
  case round =>
    obtain ⟨t, ht, rfl, hb⟩ := hrel
    have si := SI.out t ht
    by_cases h : t < m ∧ t < m2
    · obtain ⟨h1, h2⟩ := h
      obtain ⟨b, off, rfl, hbw, hby⟩ := HS.out.form (by omega)
      obtain ⟨b2, off2, rfl, hbw2, hby2⟩ := HS2.out.form (by omega)
      have hcell : wr.cell? ⟨b, off + t, none⟩ = some (.int .u8 ((fn l t).toNat : Int)) := by
        rw [hb.out.cell (p := ⟨b, off + t, none⟩) hbw]; exact hby t h1
      have hcell2 : wr.cell? ⟨b2, off2 + t, none⟩ = some (.int .u8 ((fn l2 t).toNat : Int)) := by
        rw [hb.out.cell (p := ⟨b2, off2 + t, none⟩) hbw2]; exact hby2 t h2
      clear hby hby2
      have i0 : (0 : Int) ≤ (t : Int) := by omega
      have i1 : (t : Int) < (m : Int) := by omega
      have i2 : (t : Int) < (m2 : Int) := by omega
      have i3 : (t : Int) < (if m2 < m then (m2 : Int) else (m : Int)) := by split <;> omega
      obtain ⟨y, hy⟩ : ∃ y, fn l t = y := ⟨_, rfl⟩
      obtain ⟨z, hz⟩ : ∃ z, fn l2 t = z := ⟨_, rfl⟩
      rw [hy, hz] at si
      rw [hy] at hcell
      rw [hz] at hcell2
      clear hy hz
      by_cases hyz : y = z
      · subst hyz
        have hT : t < T := si.2 ⟨h1, h2, rfl⟩
        clear si
        go_wp2_with fail
        go_quiet (fail)
        go_wp2
        go_roundw
        case rel => exact ⟨t + 1, by omega, by go_num, below_drewN hb.out nq⟩
        case measure => simp [intOf]; omega
      · have hT : T = t := by
          have : ¬ t < T := fun h => hyz (si.1 h).2.2
          omega
        subst hT
        have hne : ¬ ((y.toNat : Int) = (z.toNat : Int)) := fun e => hyz (UInt8.toNat_inj.1 (by omega))
        clear si hyz
        go_wp2_with fail
        go_quiet (fail)
        all_goals go_wp2
        all_goals go_ret
        all_goals exact ⟨rfl, below_drewN hb.out _⟩
    · have hT : T = t := by
        have : ¬ t < T := fun h' => h ⟨(si.1 h').1, (si.1 h').2.1⟩
        omega
      subst hT
      clear si
      have i3 : ¬ (T : Int) < (if m2 < m then (m2 : Int) else (m : Int)) := by split <;> omega
      have d2 : decide ((T : Int) < (if m2 < m then (m2 : Int) else (m : Int))) = false := decide_eq_false i3
      by_cases h1 : T < m
      · have i1 : (T : Int) < (m : Int) := by omega
        have i2 : ¬ ((T : Int) < (m2 : Int)) := by omega
        have d1 : decide (T < m2) = false := decide_eq_false (by omega)
        go_wp2_with fail
        go_quiet (fail)
        all_goals go_wp2
        all_goals go_ret
        all_goals exact ⟨rfl, below_drewN hb.out _⟩
      · have i1 : ¬ ((T : Int) < (m : Int)) := by omega
        go_wp2_with fail
        go_quiet (fail)
        all_goals go_wp2
        all_goals go_ret
        all_goals exact ⟨rfl, below_drewN hb.out _⟩
end Go.Proofs.Ytlhblbaingojaab
