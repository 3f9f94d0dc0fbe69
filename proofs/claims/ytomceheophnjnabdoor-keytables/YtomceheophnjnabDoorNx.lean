/- The walk of key.Next. -/
import Derived.Test.YtomceheophnjnabDoorCl
import Derived.Test.YtomceheophnjnabDoorHp
namespace Go.Proofs.YtomceheophnjnabDoor
open Go.RowKit

theorem own_set {w : World} {base g n cap i : Nat} {xs : List Value} (h : w.ownsRow base 5 1 (.slice (some ⟨g, 0, none⟩) n cap) n xs) (u : Value) : (w.setCell ⟨g, i, none⟩ u).ownsRow base 5 1 (.slice (some ⟨g, 0, none⟩) n cap) n (xs.set i u) := by
  rcases h.2 with ⟨h0, _⟩ | ⟨g', cap', cur, hv, hb, hg, hc, hm, hs, ht⟩
  · cases h0
  · cases hv
    refine ⟨by rw [List.length_set]; exact h.1, .inr ⟨g, cap, cur.setIfInBounds i u, rfl, hb, ?_, hc, hm, by simpa using hs, ?_⟩⟩
    · rw [setCell_eq_setRow w g i cur 5 (0, 0) u hg]; exact setRow_heap w g cur _ 5 (0, 0) hg
    · rw [Array.toList_setIfInBounds, List.take_set, ht]
theorem own_frozen {w : World} {base g n cap i : Nat} {xs : List Value} (h : w.ownsRow base 5 1 (.slice (some ⟨g, 0, none⟩) n cap) n xs) : w.frozen? ⟨g, i, none⟩ = false := by
  rcases h.2 with ⟨h0, _⟩ | ⟨g', cap', cur, hv, hb, hg, hc, hm, hs, ht⟩
  · cases h0
  · cases hv
    simp [World.frozen?, hg]
theorem own_some {w : World} {base n : Nat} {v : Value} {l : List UInt8} (h : w.ownsRow base 5 1 v n (bv l)) (hn : 0 < n) : ∃ g c, v = .slice (some ⟨g, 0, none⟩) n c ∧ base ≤ g := by
  rcases h.2 with ⟨_, h0⟩ | ⟨g, cap, cur, hv, hb, _⟩
  · omega
  · exact ⟨g, cap, hv, hb⟩
theorem take_at (l : List UInt8) (s : Nat) (h : s < l.length) : l.take (s + 1) = l.take s ++ [fn l s] := by
  rw [List.take_succ_eq_append_getElem h]
  simp [fn, List.getD, h]
theorem set_last (l : List UInt8) (s : Nat) (h : s < l.length) (y : UInt8) : (bv (l.take (s + 1))).set s (.int .u8 (y.toNat : Int)) = bv (l.take s ++ [y]) := by
  rw [take_at l s h, bv_append, bv_append]
  have e : (bv (l.take s)).length = s := by rw [bv_length, List.length_take]; omega
  rw [List.set_append_right _ _ (by omega), e, Nat.sub_self]
  rfl
theorem drop_ff {l : List UInt8} {s m : Nat} (hl : l.length = m) (hs : s < m) (h : l.drop (s + 1) = List.replicate (m - (s + 1)) 255) (hc : fn l s = 255) : l.drop s = List.replicate (m - s) 255 := by
  rw [List.drop_eq_getElem_cons (by omega), h]
  have e : fn l s = l[s] := by simp [fn, List.getD, show s < l.length by omega]
  rw [← e, hc, show m - s = (m - (s + 1)) + 1 by omega, List.replicate_succ]
theorem next_at {l : List UInt8} {s m : Nat} (hl : l.length = m) (hs : s < m) (h : l.drop (s + 1) = List.replicate (m - (s + 1)) 255) (hc : fn l s ≠ 255) : next l = l.take s ++ [fn l s + 1] := by
  have e : l = l.take s ++ fn l s :: List.replicate (m - (s + 1)) 255 := by
    conv => lhs; rw [← List.take_append_drop s l]
    rw [List.drop_eq_getElem_cons (by omega), h]
    have e : fn l s = l[s] := by simp [fn, List.getD, show s < l.length by omega]
    rw [e]
  conv => lhs; rw [e]
  exact next_shape _ _ _ hc

set_option maxHeartbeats 1000000 in
set_option maxRecDepth 100000 in
theorem next_any (ao : Option Addr) (m c : Nat) (l : List UInt8) (w : World) (hm : m ≤ 140737488355328) (hs : Src w ao m c l) :
    Calls Tryd.prog 7 #[.slice ao m c] w fun e w' => ∃ v n, e = .returned v ∧ New w w' v n (next l) := by
  have hll := hs.len
  have hcap := hs.cap
  have HS := keep hs
  clear hs
  go_enter Tryd.func7, Tryd.ntmps7
  go_wp2
  go_loopw [3] (fun i wr => ∃ t : Nat, t ≤ m ∧ i = .int .i64 (t : Int) ∧ Hid (l.drop t = List.replicate (m - t) 255) ∧ Hid (Below w.heap.size w wr)) (fun i _ => (intOf i).toNat)
  case atStart => exact ⟨m, Nat.le_refl _, rfl, by rw [Nat.sub_self, List.drop_eq_nil_of_le (by omega)]; rfl, Below.refl _ _⟩
  case round =>
    obtain ⟨t, ht, rfl, hd, hb⟩ := hrel
    rcases Nat.eq_zero_or_pos t with h0 | h0
    · subst h0
      go_wp2
      go_ret
      have e : l = List.replicate m 255 := by simpa using hd.out
      exact ⟨_, 0, rfl, by rw [e, next_ff]; exact World.ownsRow_nil _ _ _ _, hb.out⟩
    · obtain ⟨s, rfl⟩ : ∃ s, t = s + 1 := ⟨t - 1, by omega⟩
      have hsm : s < m := ht
      have hp : (0 : Int) < ((s + 1 : Nat) : Int) := by omega
      have e0 : ((s + 1 : Nat) : Int) - 1 = (s : Int) := by omega
      obtain ⟨b, off, rfl, hbw, hby⟩ := HS.out.form (by omega)
      have hcell : wr.cell? ⟨b, off + s, none⟩ = some (.int .u8 ((fn l s).toNat : Int)) := by
        rw [hb.out.cell (p := ⟨b, off + s, none⟩) hbw]; exact hby s hsm
      clear hby
      have hs0 : (0 : Int) ≤ (s : Int) := by omega
      have hs1 : (s : Int) < (m : Int) := by omega
      by_cases hc : fn l s = 255
      · have hd' := keep (drop_ff hll hsm hd.out hc)
        rw [hc] at hcell
        have e255 : ((255 : UInt8).toNat : Int) = 255 := rfl
        rw [e255] at hcell
        go_wp2
        go_roundw
        case rel => exact ⟨s, by omega, by first | rfl | go_num, hd', hb⟩
        case measure => simp [intOf]
      · have hn := keep (next_at hll hsm hd.out hc)
        have hset := keep (fun y : UInt8 => set_last l s (by omega) y)
        have htk := keep (HS.out.take (k := s + 1) (by omega))
        obtain ⟨y, hy⟩ : ∃ y, fn l s = y := ⟨_, rfl⟩
        rw [hy] at hcell hn hc
        have hy1 : ¬ ((y.toNat : Int) = 255) := fun e => hc (UInt8.toNat_inj.1 (by rw [show (255 : UInt8).toNat = 255 from rfl]; omega))
        obtain ⟨z, hz⟩ : ∃ z : UInt8, y + 1 = z := ⟨_, rfl⟩
        have hz1 : (y.toNat : Int) + 1 = (z.toNat : Int) := by rw [← hz, succ_toNat hc]; omega
        rw [hz] at hn
        have hcl : s + 1 ≤ c := by omega
        have hy2 : (y.toNat : Int) < 255 := by have := y.toNat_lt; omega
        clear hz hc
        go_wp2_with fail
        refine (clone_any _ (s + 1) c (l.take (s + 1)) wr (by omega) (htk.out.below hb.out)).mono ?_
        rintro e w1 ⟨v1, rfl, hn1⟩
        obtain ⟨g, c1, rfl, hg⟩ := own_some hn1.1 (by omega)
        have hc1 : w1.cell? ⟨g, s, none⟩ = some (.int .u8 (y.toNat : Int)) := by
          have := hn1.1.cells (g := g) rfl s _ (bv_at _ s (by rw [hn1.len]; omega))
          have e : fn (l.take (s + 1)) s = y := by rw [← hy]; unfold fn; simp [List.getD]
          rw [e, Addr.add_mid, Nat.zero_add] at this
          exact this
        have hf1 : w1.frozen? ⟨g, s, none⟩ = false := own_frozen hn1.1
        have ho1 := own_set (i := s) hn1.1 (.int .u8 (z.toNat : Int))
        rw [hset.out z, ← hn.out] at ho1
        have hN := keep (New.after hb.out ⟨ho1, Below.setCell (p := ⟨g, s, none⟩) hn1.2 hg (.int .u8 (z.toNat : Int))⟩)
        clear ho1
        clear hn1 hy
        go_wp2
        go_ret
        exact ⟨_, s + 1, rfl, hN.out⟩
end Go.Proofs.YtomceheophnjnabDoor
