/- The walk of the document's Less. -/
import Derived.Test.YtjiphmeoofeepaaL
import Derived.Test.YtjiphmeoofeepaaKl
import Derived.Deep.QuietTactic
import Derived.BigQuiet
import Derived.WalkSmall
namespace Go.Proofs.Ytjiphmeoofeepaa
open Go.RowKit

theorem less_drop {l l2 : List UInt8} {k : Nat} (h1 : k < l.length) (h2 : k < l2.length) : less (l.drop k) (l2.drop k) = (decide ((fn l k).toNat < (fn l2 k).toNat) || (decide (fn l k = fn l2 k) && less (l.drop (k + 1)) (l2.drop (k + 1)))) := by
  rw [List.drop_eq_getElem_cons h1, List.drop_eq_getElem_cons h2]
  have e1 : fn l k = l[k] := by simp [fn, List.getD, h1]
  have e2 : fn l2 k = l2[k] := by simp [fn, List.getD, h2]
  rw [e1, e2]
  simp only [less]
  congr 1

set_option maxHeartbeats 1000000 in
set_option maxRecDepth 100000 in
theorem refLess_any (ao : Option Addr) (m c : Nat) (l : List UInt8) (ao2 : Option Addr) (m2 c2 : Nat) (l2 : List UInt8) (w : World) (hm : m ≤ 140737488355328) (hm2 : m2 ≤ 140737488355328) (hs : Src w ao m c l) (hs2 : Src w ao2 m2 c2 l2) :
    Calls Try.prog 30 #[.slice ao m c, .slice ao2 m2 c2] w fun e w' => e = .returned (.bool (less l l2)) ∧ Below w.heap.size w w' := by
  have hl1 := hs.len
  have hl2 := hs2.len
  have HS := keep hs
  have HS2 := keep hs2
  clear hs hs2
  go_enter Try.func30, Try.ntmps30
  go_wp2
  go_loopw [5] (fun i wr => ∃ t : Nat, t ≤ m ∧ t ≤ m2 ∧ i = .int .i64 (t : Int) ∧ Hid (less l l2 = less (l.drop t) (l2.drop t)) ∧ Hid (Below w.heap.size w wr)) (fun i _ => m - (intOf i).toNat)
  case atStart => exact ⟨0, Nat.zero_le _, Nat.zero_le _, rfl, rfl, Below.refl _ _⟩
  case round =>
    obtain ⟨t, ht, ht2, rfl, hd, hb⟩ := hrel
    by_cases h : t < m ∧ t < m2
    · obtain ⟨h1, h2⟩ := h
      have hlt := keep (less_drop (l := l) (l2 := l2) (k := t) (by omega) (by omega))
      obtain ⟨b, off, rfl, hbw, hby⟩ := HS.out.form (by omega)
      obtain ⟨b2, off2, rfl, hbw2, hby2⟩ := HS2.out.form (by omega)
      have hcell : wr.cell? ⟨b, off + t, none⟩ = some (.int .u8 ((fn l t).toNat : Int)) := by
        rw [hb.out.cell (p := ⟨b, off + t, none⟩) hbw]; exact hby t h1
      have hcell2 : wr.cell? ⟨b2, off2 + t, none⟩ = some (.int .u8 ((fn l2 t).toNat : Int)) := by
        rw [hb.out.cell (p := ⟨b2, off2 + t, none⟩) hbw2]; exact hby2 t h2
      clear hby hby2
      have i0 : (0 : Int) ≤ (t : Int) := by omega
      have i1 : (t : Int) < (m : Int) := by omega
      have i2 : (t : Int) < (m2 : Int) := by omega
      obtain ⟨y, hy⟩ : ∃ y, fn l t = y := ⟨_, rfl⟩
      obtain ⟨z, hz⟩ : ∃ z, fn l2 t = z := ⟨_, rfl⟩
      rw [hy, hz] at hlt
      rw [hy] at hcell
      rw [hz] at hcell2
      clear hy hz
      by_cases hyz : y = z
      · subst hyz
        go_wp2_with fail
        go_quiet (fail)
        go_wp2
        go_roundw
        case rel => exact ⟨t + 1, by omega, by omega, by go_num, keep (by rw [hd.out, hlt.out]; simp), below_drewN hb.out nq⟩
        case measure => simp [intOf]; omega
      · have hne : ¬ ((y.toNat : Int) = (z.toNat : Int)) := fun e => hyz (UInt8.toNat_inj.1 (by omega))
        have hv0 : less l l2 = decide (y.toNat < z.toNat) := by
          rw [hd.out, hlt.out]
          simp [hyz]
        have hv := keep hv0
        clear hv0
        go_wp2_with fail
        go_quiet (fail)
        obtain ⟨ws, hws⟩ : ∃ ws, ws = wr.drewN nq := ⟨_, rfl⟩
        rw [← hws]
        have hb' : Hid (Below w.heap.size w ws) := by rw [hws]; exact below_drewN hb.out nq
        have hc' : ws.cell? ⟨b, off + t, none⟩ = some (.int .u8 (y.toNat : Int)) := by rw [hws]; exact hcell
        have hc2' : ws.cell? ⟨b2, off2 + t, none⟩ = some (.int .u8 (z.toNat : Int)) := by rw [hws]; exact hcell2
        clear hb hcell hcell2 hws
        go_wp2_with fail
        go_quiet (fail)
        go_wp2
        go_ret
        exact ⟨by rw [hv.out]; simp, below_drewN hb'.out _⟩
    · have hv : Hid (less l l2 = decide (m < m2)) := by
        rw [hd.out]
        rcases Nat.lt_or_ge t m with h1 | h1
        · have h2 : t = m2 := by omega
          rw [List.drop_eq_nil_of_le (show l2.length ≤ t by omega)]
          rw [decide_eq_false (by omega)]
          cases l.drop t <;> rfl
        · have h2 : t = m := by omega
          rw [List.drop_eq_nil_of_le (show l.length ≤ t by omega)]
          by_cases h3 : m < m2
          · rw [decide_eq_true (by omega), List.drop_eq_getElem_cons (by omega)]; rfl
          · rw [decide_eq_false (by omega), List.drop_eq_nil_of_le (by omega)]; rfl
      by_cases h1 : t < m
      · have i1 : (t : Int) < (m : Int) := by omega
        have i2 : ¬ ((t : Int) < (m2 : Int)) := by omega
        go_wp2
        go_ret
        exact ⟨by rw [hv.out]; rfl, hb.out⟩
      · have i1 : ¬ ((t : Int) < (m : Int)) := by omega
        go_wp2
        go_ret
        exact ⟨by rw [hv.out]; rfl, hb.out⟩
end Go.Proofs.Ytjiphmeoofeepaa
