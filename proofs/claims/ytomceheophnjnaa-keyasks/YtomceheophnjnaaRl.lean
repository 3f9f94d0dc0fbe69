/- The walks of the document's Less, Has and Next. -/
import Derived.Test.YtomceheophnjnaaNx
import Derived.Deep.QuietTactic
import Derived.BigQuiet
import Derived.WalkSmall
namespace Go.Proofs.Ytomceheophnjnaa
open Go.RowKit

theorem less_drop {l l2 : List UInt8} {k : Nat} (h1 : k < l.length) (h2 : k < l2.length) : less (l.drop k) (l2.drop k) = (decide ((fn l k).toNat < (fn l2 k).toNat) || (decide (fn l k = fn l2 k) && less (l.drop (k + 1)) (l2.drop (k + 1)))) := by
  rw [List.drop_eq_getElem_cons h1, List.drop_eq_getElem_cons h2]
  have e1 : fn l k = l[k] := by simp [fn, List.getD, h1]
  have e2 : fn l2 k = l2[k] := by simp [fn, List.getD, h2]
  rw [e1, e2]
  simp only [less]
  congr 1

set_option maxHeartbeats 1000000 in
set_option maxRecDepth 100000 in
theorem refLess_any (ao : Option Addr) (m c : Nat) (l : List UInt8) (ao2 : Option Addr) (m2 c2 : Nat) (l2 : List UInt8) (w : World) (hm : m ≤ 140737488355328) (hm2 : m2 ≤ 140737488355328) (hs : Src w ao m c l) (hs2 : Src w ao2 m2 c2 l2) :
    Calls Try.prog 6 #[.slice ao m c, .slice ao2 m2 c2] w fun e w' => e = .returned (.bool (less l l2)) ∧ Below w.heap.size w w' := by
  have hl1 := hs.len
  have hl2 := hs2.len
  have HS := keep hs
  have HS2 := keep hs2
  clear hs hs2
  go_enter Try.func6, Try.ntmps6
  go_wp2
  go_loopw [5] (fun i wr => ∃ t : Nat, t ≤ m ∧ t ≤ m2 ∧ i = .int .i64 (t : Int) ∧ Hid (less l l2 = less (l.drop t) (l2.drop t)) ∧ Hid (Below w.heap.size w wr)) (fun i _ => m - (intOf i).toNat)
  case atStart => exact ⟨0, Nat.zero_le _, Nat.zero_le _, rfl, rfl, Below.refl _ _⟩
  case round =>
    obtain ⟨t, ht, ht2, rfl, hd, hb⟩ := hrel
    by_cases h : t < m ∧ t < m2
    · obtain ⟨h1, h2⟩ := h
      have hlt := keep (less_drop (l := l) (l2 := l2) (k := t) (by omega) (by omega))
      obtain ⟨b, off, rfl, hbw, hby⟩ := HS.out.form (by omega)
      obtain ⟨b2, off2, rfl, hbw2, hby2⟩ := HS2.out.form (by omega)
      have hcell : wr.cell? ⟨b, off + t, none⟩ = some (.int .u8 ((fn l t).toNat : Int)) := by
        rw [hb.out.cell (p := ⟨b, off + t, none⟩) hbw]; exact hby t h1
      have hcell2 : wr.cell? ⟨b2, off2 + t, none⟩ = some (.int .u8 ((fn l2 t).toNat : Int)) := by
        rw [hb.out.cell (p := ⟨b2, off2 + t, none⟩) hbw2]; exact hby2 t h2
      clear hby hby2
      have i0 : (0 : Int) ≤ (t : Int) := by omega
      have i1 : (t : Int) < (m : Int) := by omega
      have i2 : (t : Int) < (m2 : Int) := by omega
      obtain ⟨y, hy⟩ : ∃ y, fn l t = y := ⟨_, rfl⟩
      obtain ⟨z, hz⟩ : ∃ z, fn l2 t = z := ⟨_, rfl⟩
      rw [hy, hz] at hlt
      rw [hy] at hcell
      rw [hz] at hcell2
      clear hy hz
      by_cases hyz : y = z
      · subst hyz
        go_wp2_with fail
        go_quiet (fail)
        go_wp2
        go_roundw
        case rel => exact ⟨t + 1, by omega, by omega, by go_num, keep (by rw [hd.out, hlt.out]; simp), below_drewN hb.out nq⟩
        case measure => simp [intOf]; omega
      · have hne : ¬ ((y.toNat : Int) = (z.toNat : Int)) := fun e => hyz (UInt8.toNat_inj.1 (by omega))
        have hv0 : less l l2 = decide (y.toNat < z.toNat) := by
          rw [hd.out, hlt.out]
          simp [hyz]
        have hv := keep hv0
        clear hv0
        go_wp2_with fail
        go_quiet (fail)
        obtain ⟨ws, hws⟩ : ∃ ws, ws = wr.drewN nq := ⟨_, rfl⟩
        rw [← hws]
        have hb' : Hid (Below w.heap.size w ws) := by rw [hws]; exact below_drewN hb.out nq
        have hc' : ws.cell? ⟨b, off + t, none⟩ = some (.int .u8 (y.toNat : Int)) := by rw [hws]; exact hcell
        have hc2' : ws.cell? ⟨b2, off2 + t, none⟩ = some (.int .u8 (z.toNat : Int)) := by rw [hws]; exact hcell2
        clear hb hcell hcell2 hws
        go_wp2_with fail
        go_quiet (fail)
        go_wp2
        go_ret
        exact ⟨by rw [hv.out]; simp, below_drewN hb'.out _⟩
    · have hv : Hid (less l l2 = decide (m < m2)) := by
        rw [hd.out]
        rcases Nat.lt_or_ge t m with h1 | h1
        · have h2 : t = m2 := by omega
          rw [List.drop_eq_nil_of_le (show l2.length ≤ t by omega)]
          rw [decide_eq_false (by omega)]
          cases l.drop t <;> rfl
        · have h2 : t = m := by omega
          rw [List.drop_eq_nil_of_le (show l.length ≤ t by omega)]
          by_cases h3 : m < m2
          · rw [decide_eq_true (by omega), List.drop_eq_getElem_cons (by omega)]; rfl
          · rw [decide_eq_false (by omega), List.drop_eq_nil_of_le (by omega)]; rfl
      by_cases h1 : t < m
      · have i1 : (t : Int) < (m : Int) := by omega
        have i2 : ¬ ((t : Int) < (m2 : Int)) := by omega
        go_wp2
        go_ret
        exact ⟨by rw [hv.out]; rfl, hb.out⟩
      · have i1 : ¬ ((t : Int) < (m : Int)) := by omega
        go_wp2
        go_ret
        exact ⟨by rw [hv.out]; rfl, hb.out⟩

set_option maxHeartbeats 1000000 in
set_option maxRecDepth 100000 in
theorem refHas_any (ao : Option Addr) (m c : Nat) (l : List UInt8) (ao2 : Option Addr) (m2 c2 : Nat) (l2 : List UInt8) (w : World) (hs : Src w ao m c l) (hs2 : Src w ao2 m2 c2 l2) :
    Calls Try.prog 8 #[.slice ao m c, .slice ao2 m2 c2] w fun e w' => e = .returned (.bool (decide (l2 <+: l))) ∧ Below w.heap.size w w' := by
  have hp := prefix_take l l2
  rw [hs.len, hs2.len] at hp
  have HP := keep hp
  clear hp
  by_cases h : m2 ≤ m
  · have hc := Nat.le_trans h hs.cap
    have h1 := fun n => conv_src ((hs.take h).below (below_drewN (Below.refl w.heap.size w) n))
    have h2 := fun n => conv_src (hs2.below (below_drewN (Below.refl w.heap.size w) n))
    have HB := keep (list_beq (l.take m2) l2)
    clear hs hs2
    go_enter Try.func8, Try.ntmps8
    go_wp2_with fail
    go_quiet (fail)
    go_wp2
    go_ret
    refine ⟨?_, below_drewN (Below.refl _ _) _⟩
    rw [← HP.out, ← HB.out, decide_eq_true h]
    rfl
  · clear hs hs2
    go_enter Try.func8, Try.ntmps8
    go_wp2_with fail
    go_quiet (fail)
    go_wp2
    go_ret
    refine ⟨?_, below_drewN (Below.refl _ _) _⟩
    rw [← HP.out]
    simp [h]

set_option maxHeartbeats 1000000 in
set_option maxRecDepth 100000 in
theorem refNext_any (ao : Option Addr) (m c : Nat) (l : List UInt8) (w : World) (hm : m ≤ 140737488355328) (hs : Src w ao m c l) :
    Calls Try.prog 11 #[.slice ao m c] w fun e w' => ∃ v n, e = .returned v ∧ New w w' v n (next l) := by
  obtain ⟨i0, hi, hz0, hz1, hz2⟩ := info_parts info5
  have hll := hs.len
  have hcap := hs.cap
  have HS := keep hs
  clear hs
  go_enter Try.func11, Try.ntmps11
  go_wp2
  go_loopw [3] (fun i wr => ∃ t : Nat, t ≤ m ∧ i = .int .i64 (t : Int) ∧ Hid (l.drop t = List.replicate (m - t) 255) ∧ Hid (Below w.heap.size w wr)) (fun i _ => (intOf i).toNat)
  case atStart => exact ⟨m, Nat.le_refl _, rfl, by rw [Nat.sub_self, List.drop_eq_nil_of_le (by omega)]; rfl, Below.refl _ _⟩
  case round =>
    obtain ⟨t, ht, rfl, hd, hb⟩ := hrel
    rcases Nat.eq_zero_or_pos t with h0 | h0
    · subst h0
      go_wp2
      go_ret
      have e : l = List.replicate m 255 := by simpa using hd.out
      exact ⟨_, 0, rfl, by rw [e, next_ff]; exact World.ownsRow_nil _ _ _ _, hb.out⟩
    · obtain ⟨s, rfl⟩ : ∃ s, t = s + 1 := ⟨t - 1, by omega⟩
      have hsm : s < m := ht
      have hp : (0 : Int) < ((s + 1 : Nat) : Int) := by omega
      have e0 : ((s + 1 : Nat) : Int) - 1 = (s : Int) := by omega
      obtain ⟨b, off, rfl, hbw, hby⟩ := HS.out.form (by omega)
      have hcell : wr.cell? ⟨b, off + s, none⟩ = some (.int .u8 ((fn l s).toNat : Int)) := by
        rw [hb.out.cell (p := ⟨b, off + s, none⟩) hbw]; exact hby s hsm
      clear hby
      have hs0 : (0 : Int) ≤ (s : Int) := by omega
      have hs1 : (s : Int) < (m : Int) := by omega
      by_cases hc : fn l s = 255
      · have hd' := keep (drop_ff hll hsm hd.out hc)
        rw [hc] at hcell
        have e255 : ((255 : UInt8).toNat : Int) = 255 := rfl
        rw [e255] at hcell
        go_wp2
        go_roundw
        case rel => exact ⟨s, by omega, by first | rfl | go_num, hd', hb⟩
        case measure => simp [intOf]
      · have hn := keep (next_at hll hsm hd.out hc)
        have hset := keep (fun y : UInt8 => set_last l s (by omega) y)
        have htk := keep (HS.out.take (k := s + 1) (by omega))
        obtain ⟨y, hy⟩ : ∃ y, fn l s = y := ⟨_, rfl⟩
        rw [hy] at hcell hn hc
        have hy1 : ¬ ((y.toNat : Int) = 255) := fun e => hc (UInt8.toNat_inj.1 (by rw [show (255 : UInt8).toNat = 255 from rfl]; omega))
        obtain ⟨z, hz⟩ : ∃ z : UInt8, y + 1 = z := ⟨_, rfl⟩
        have hyz : (y.toNat : Int) + 1 = (z.toNat : Int) := by rw [← hz, succ_toNat hc]; omega
        rw [hz] at hn
        have hcl : s + 1 ≤ c := by omega
        have hy2 : (y.toNat : Int) < 255 := by have := y.toNat_lt; omega
        clear hz hc
        go_wp2_with (at_builtin; go_loud (refine wpList_append_src rfl _ _ 22 rfl w.heap.size i0 _ Try.underlying22 hi hz0 hz1 hz2 rfl _ 0 [] rfl (World.ownsRow_made wr #[] 0 hb.out.size (by unfold maxLen; omega) rfl) _ (s + 1) c (l.take (s + 1)) rfl (htk.out.below (hb.out.alloc hb.out.size _)) (by omega) (le_alloc hb.out.size _) ?_; intro v1 w1 ho1 hg1; simp only [Nat.zero_add, List.nil_append] at ho1; have hb1 := (hb.out.alloc hb.out.size _).grown hg1 (le_alloc hb.out.size _) (fun j hj => by cases hj; exact hb.out.size); clear hg1; obtain ⟨g, c1, rfl, hg⟩ := own_some ho1 (by omega); have hc1 : w1.cell? ⟨g, s, none⟩ = some (.int .u8 (y.toNat : Int)) := (by have := ho1.cells (g := g) rfl s _ (bv_at _ s (by rw [List.length_take]; omega)); have e : fn (l.take (s + 1)) s = y := (by rw [← hy]; unfold fn; simp [List.getD]); rw [e, Addr.add_mid, Nat.zero_add] at this; exact this); have hf1 : w1.frozen? ⟨g, s, none⟩ = false := own_frozen ho1; have ho2 := own_set (i := s) ho1 (.int .u8 (z.toNat : Int)); rw [hset.out z, ← hn.out] at ho2; have hN := keep (show New w _ _ _ _ from ⟨ho2, Below.setCell (p := ⟨g, s, none⟩) hb1 hg (.int .u8 (z.toNat : Int))⟩); clear ho1 ho2 hb1 hy))
        go_ret
        exact ⟨_, s + 1, rfl, hN.out⟩
end Go.Proofs.Ytomceheophnjnaa
