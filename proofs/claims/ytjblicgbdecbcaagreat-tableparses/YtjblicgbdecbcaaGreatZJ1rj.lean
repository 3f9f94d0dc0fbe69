/- The walks of the document's PutNum and of Same. -/
/- The walks of code.lay over a text, code.PutText, and of the document's PutText. -/
/- The walks of both sides' shared. -/
import Derived.Test.YtjblicgbdecbcaaGreatZRpj
import Derived.Test.YtjblicgbdecbcaaGreatZTx
import Derived.Test.YtjblicgbdecbcaaGreatZJ1j
namespace Go.Proofs.YtjblicgbdecbcaaGreat
open Go.RowKit

set_option maxHeartbeats 1000000 in
set_option maxRecDepth 100000 in
theorem rputNum_any (ao : Option Addr) (m c : Nat) (l : List UInt8) (n : Int) (w : World) (hm : m + 9 ≤ 140737488355328) (hs : Src w ao m c l) :
    Calls Tryz.prog 31 #[.slice ao m c, .int .i64 n] w fun e w' => ∃ v, e = .returned v ∧ New w w' v (m + (num (cl n)).length) (l ++ num (cl n)) := by
  obtain ⟨i0, hi, hz0, hz1, hz2⟩ := info_parts info5
  have h9 := num9 n
  have hll := hs.len
  have HS := keep hs
  clear hs
  go_enter Tryz.func31, Tryz.ntmps31
  go_wp2_with (at_builtin; refine wpList_append_src rfl _ _ 24 rfl w.heap.size i0 _ Tryz.underlying24 hi hz0 hz1 hz2 rfl _ 0 [] rfl (World.ownsRow_nil _ _ _ _) _ m c l rfl HS.out (by omega) (Nat.le_refl _) ?_; intro v1 w1 ho1 hg1; have ho2 := keep ho1; simp only [Nat.zero_add, List.nil_append] at ho2; have hb1 := keep ((Below.refl w.heap.size w).grown hg1 (Nat.le_refl _) (fun j hj => by cases hj)); clear ho1 hg1)
  all_goals
    go_loopw [1, 5] (fun i v wr => ∃ (p : List UInt8) (k N : Nat), N ≤ 4611686018427387903 ∧ i = .int .i64 (N : Int) ∧ p.length = k ∧ Hid (l ++ num (cl n) = p ++ num N) ∧ Hid (wr.ownsRow w.heap.size 5 1 v k (bv p)) ∧ Hid (Below w.heap.size w wr)) (fun i _ _ => (intOf i).toNat)
    case atStart =>
      exact ⟨l, m, cl n, cl_le n, by unfold cl; congr 1; omega, hll, rfl, ho2, hb1⟩
    case round =>
      clear ho2 hb1
      obtain ⟨p, k, N, hN, rfl, hpk, hp, ho, hb⟩ := hrel
      have hk9 : k < m + 9 := by
        have h1 := congrArg List.length hp.out
        have h2 := num_pos N
        rw [List.length_append, List.length_append, hpk, hll] at h1
        omega
      by_cases hlt : 128 ≤ N
      · have hp' : Hid (l ++ num (cl n) = (p ++ [UInt8.ofNat (128 + N % 128)]) ++ num (N / 128)) := by rw [← num_cons hlt]; exact hp.out
        obtain ⟨y, hy⟩ : ∃ y : UInt8, UInt8.ofNat (128 + N % 128) = y := ⟨_, rfl⟩
        have hx : Hid (128 + (N : Int) % 128 = (y.toNat : Int)) := by rw [← hy, ofNat_group]; show _ = _; omega
        rw [hy] at hp'
        clear hy
        go_wp2_with (at_builtin; refine wpList_append_src rfl _ _ 24 rfl w.heap.size i0 _ Tryz.underlying24 hi hz0 hz1 hz2 rfl _ k p rfl (by exact ho.out.alloc _) _ 1 1 [y] rfl (Src.builtI _ _ _ (by have := hx.out; omega)) (by omega) (le_alloc hb.out.size _) ?_; intro v2 w2 ho2 hg2; have hb3 := keep ((hb.out.alloc hb.out.size _).grown hg2 (le_alloc hb.out.size _) (fun j hj => (ho.out.lt j hj).1)); have ho3 := keep ho2; clear ho2 hg2)
        go_roundw
        case rel => exact ⟨_, k + 1, N / 128, by omega, by first | rfl | (congr 1; omega), by simp [hpk], hp', ho3, hb3⟩
        case measure => simp [intOf]; omega
      · have hl : m + (num (cl n)).length = k + 1 := by
          have h1 := congrArg List.length hp.out
          rw [List.length_append, List.length_append, hpk, hll, len_small (n := N) (by omega)] at h1
          exact h1
        have hq : Hid (l ++ num (cl n) = p ++ [UInt8.ofNat N]) := hp.out.trans (by rw [num_small (by omega)])
        have hx : Hid ((N : Int) = ((UInt8.ofNat N).toNat : Int)) := by rw [ofNat_last (by omega)]; exact rfl
        obtain ⟨y, hy⟩ : ∃ y : UInt8, UInt8.ofNat N = y := ⟨_, rfl⟩
        rw [hy] at hx hq
        clear hy
        go_wp2_with (at_builtin; refine wpList_append_src rfl _ _ 24 rfl w.heap.size i0 _ Tryz.underlying24 hi hz0 hz1 hz2 rfl _ k p rfl (by exact ho.out.alloc _) _ 1 1 [y] rfl (Src.builtI _ _ _ (by have := hx.out; omega)) (by omega) (le_alloc hb.out.size _) ?_; intro v2 w2 ho2 hg2; have hb3 := keep ((hb.out.alloc hb.out.size _).grown hg2 (le_alloc hb.out.size _) (fun j hj => (ho.out.lt j hj).1)); have ho3 := keep ho2; clear ho2 hg2)
        go_ret
        rw [hl, hq.out]
        exact ⟨_, rfl, ho3.out, hb3.out⟩

end Go.Proofs.YtjblicgbdecbcaaGreat
namespace Go.Proofs.YtjblicgbdecbcaaGreat
open Go.RowKit

set_option maxHeartbeats 1000000 in
set_option maxRecDepth 100000 in
theorem rputText_any (ao : Option Addr) (m c : Nat) (l : List UInt8) (s : ByteArray) (m2 : Nat) (l2 : List UInt8) (w : World) (hl2 : l2.length = m2) (hsl : s = ⟨l2.toArray⟩) (hm : m + m2 + 9 ≤ 140737488355328) (hs : Src w ao m c l) :
    Calls Tryz.prog 33 #[.slice ao m c, .string s] w fun e w' => ∃ v, e = .returned v ∧ New w w' v (m + ((num m2).length + m2)) (l ++ (num m2 ++ l2)) := by
  obtain ⟨i0, hi, hz0, hz1, hz2⟩ := info_parts info5
  have h9 := num_le' m2 (by omega)
  have KP := keep (rputNum_any ao m c l (m2 : Int) w (by omega) hs)
  rw [cl_of' m2 (by omega)] at KP
  have hsz : s.size = m2 := by rw [hsl]; exact hl2
  have HSL := keep hsl
  clear hs hsl
  go_enter Tryz.func33, Tryz.ntmps33
  go_wp2_with fail
  go_fit KP.out
  rintro e w1 ⟨v1, rfl, hn1⟩
  have O1 := keep hn1.1
  have b1 := keep hn1.2
  clear hn1 KP
  go_wp2_with (at_builtin; refine wpList_append_own_string_if (by rfl) _ _ 24 9 rfl w.heap.size i0 Tryz.underlying24 Tryz.underlying9 hi hz0 hz1 hz2 _ (m + (num m2).length) (l ++ num m2) l2 m2 rfl O1.out (by rw [HSL.out]; rfl) hl2 (by omega) b1.out.size ?_; intro v3 w3 ho3 hg3; have hb3 := keep (b1.out.grown hg3 b1.out.size (fun j hj => (O1.out.lt j hj).1)); have ho3' := keep ho3; clear ho3 hg3)
  go_ret
  refine ⟨_, rfl, ?_⟩
  rw [← Nat.add_assoc, ← List.append_assoc]
  exact ⟨ho3'.out, hb3.out⟩
end Go.Proofs.YtjblicgbdecbcaaGreat
namespace Go.Proofs.YtjblicgbdecbcaaGreat
open Go.RowKit
open Bq (share)

set_option maxHeartbeats 1000000 in
set_option maxRecDepth 100000 in
theorem rshared_any (ao : Option Addr) (m c : Nat) (l : List UInt8) (ao2 : Option Addr) (m2 c2 : Nat) (l2 : List UInt8) (w : World) (hm : m ≤ 140737488355328) (hm2 : m2 ≤ 140737488355328) (hs : Src w ao m c l) (hs2 : Src w ao2 m2 c2 l2) :
    Calls Tryz.prog 65 #[.slice ao m c, .slice ao2 m2 c2] w fun e w' => e = .returned (.int .i64 (share l l2 : Int)) ∧ Below w.heap.size w w' := by
  have hl1 := hs.len
  have hl2 := hs2.len
  have HS := keep hs
  have HS2 := keep hs2
  clear hs hs2
  have SL := Bq.share_left l l2
  have SR := Bq.share_right l l2
  rw [hl1] at SL
  rw [hl2] at SR
  have SI := keep (Bq.share_iff l l2)
  obtain ⟨T, hT⟩ : ∃ T, share l l2 = T := ⟨_, rfl⟩
  rw [hT, hl1, hl2] at SI
  rw [hT] at SL SR ⊢
  clear hT hl1 hl2
  go_enter Tryz.func65, Tryz.ntmps65
  go_wp2
  go_loopw [5] (fun i wr => ∃ t : Nat, t ≤ T ∧ i = .int .i64 (t : Int) ∧ Hid (Below w.heap.size w wr)) (fun i _ => T - (intOf i).toNat)
  case atStart => exact ⟨0, Nat.zero_le _, rfl, Below.refl _ _⟩
  case round =>
    obtain ⟨t, ht, rfl, hb⟩ := hrel
    have si := SI.out t ht
    by_cases h : t < m ∧ t < m2
    · obtain ⟨h1, h2⟩ := h
      obtain ⟨b, off, rfl, hbw, hby⟩ := HS.out.form (by omega)
      obtain ⟨b2, off2, rfl, hbw2, hby2⟩ := HS2.out.form (by omega)
      have hcell : wr.cell? ⟨b, off + t, none⟩ = some (.int .u8 ((fn l t).toNat : Int)) := by
        rw [hb.out.cell (p := ⟨b, off + t, none⟩) hbw]; exact hby t h1
      have hcell2 : wr.cell? ⟨b2, off2 + t, none⟩ = some (.int .u8 ((fn l2 t).toNat : Int)) := by
        rw [hb.out.cell (p := ⟨b2, off2 + t, none⟩) hbw2]; exact hby2 t h2
      clear hby hby2
      have i0 : (0 : Int) ≤ (t : Int) := by omega
      have i1 : (t : Int) < (m : Int) := by omega
      have i2 : (t : Int) < (m2 : Int) := by omega
      have i3 : (t : Int) < (if m2 < m then (m2 : Int) else (m : Int)) := by split <;> omega
      obtain ⟨y, hy⟩ : ∃ y, fn l t = y := ⟨_, rfl⟩
      obtain ⟨z, hz⟩ : ∃ z, fn l2 t = z := ⟨_, rfl⟩
      rw [hy, hz] at si
      rw [hy] at hcell
      rw [hz] at hcell2
      clear hy hz
      by_cases hyz : y = z
      · subst hyz
        have hT : t < T := si.2 ⟨h1, h2, rfl⟩
        clear si
        go_wp2_with fail
        go_quiet (fail)
        go_wp2
        go_roundw
        case rel => exact ⟨t + 1, by omega, by go_num, below_drewN hb.out nq⟩
        case measure => simp [intOf]; omega
      · have hT : T = t := by
          have : ¬ t < T := fun h => hyz (si.1 h).2.2
          omega
        subst hT
        have hne : ¬ ((y.toNat : Int) = (z.toNat : Int)) := fun e => hyz (UInt8.toNat_inj.1 (by omega))
        clear si hyz
        go_wp2_with fail
        go_quiet (fail)
        all_goals go_wp2
        all_goals go_ret
        all_goals exact ⟨rfl, below_drewN hb.out _⟩
    · have hT : T = t := by
        have : ¬ t < T := fun h' => h ⟨(si.1 h').1, (si.1 h').2.1⟩
        omega
      subst hT
      clear si
      have i3 : ¬ (T : Int) < (if m2 < m then (m2 : Int) else (m : Int)) := by split <;> omega
      have d2 : decide ((T : Int) < (if m2 < m then (m2 : Int) else (m : Int))) = false := decide_eq_false i3
      by_cases h1 : T < m
      · have i1 : (T : Int) < (m : Int) := by omega
        have i2 : ¬ ((T : Int) < (m2 : Int)) := by omega
        have d1 : decide (T < m2) = false := decide_eq_false (by omega)
        go_wp2_with fail
        go_quiet (fail)
        all_goals go_wp2
        all_goals go_ret
        all_goals exact ⟨rfl, below_drewN hb.out _⟩
      · have i1 : ¬ ((T : Int) < (m : Int)) := by omega
        go_wp2_with fail
        go_quiet (fail)
        all_goals go_wp2
        all_goals go_ret
        all_goals exact ⟨rfl, below_drewN hb.out _⟩
end Go.Proofs.YtjblicgbdecbcaaGreat
