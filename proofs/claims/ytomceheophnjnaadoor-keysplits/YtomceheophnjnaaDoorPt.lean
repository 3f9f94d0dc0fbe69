/- The walk of key.parts. -/
import Derived.Test.YtomceheophnjnaaDoorMk
import Derived.Test.YtomceheophnjnaaDoorT
import Derived.Deep.QuietTactic
import Derived.BigQuiet
import Derived.WalkSmall
namespace Go.Proofs.YtomceheophnjnaaDoor
open Go.RowKit

theorem results_tmp4 {fn : Func} {t u v x : Tmp} (h : fn.results = #[.tmp t, .tmp u, .tmp v, .tmp x]) (tmps : Array Value) (P : Program) (w : World) :
    (results fn tmps).run P w = .ok (.tuple #[tmps.getD t undef, tmps.getD u undef, tmps.getD v undef, tmps.getD x undef]) w := by
  simp [results, h]
/-- Bytes that are a key. -/
def IsKey (l : List UInt8) : Prop := 9 ≤ l.length ∧ big (l.take 8) ≤ 1099511627776 ∧ l.length ≤ 64
/-- What parts answers. -/
def Parted (w : World) (l : List UInt8) (e : Ending) (w' : World) : Prop :=
  (IsKey l ∧ ∃ x c, e = .returned (.tuple #[.int .i64 ((big (l.take 8) : Nat) : Int), .int .i64 ((fn l 8).toNat : Int), .slice x (l.length - 9) c, .nilIface]) ∧ Src w' x (l.length - 9) c (l.drop 9) ∧ Below w.heap.size w w') ∨
  (¬ IsKey l ∧ ∃ t a r s, e = .returned (.tuple #[t, a, r, .iface 51 (.agg #[.string s])]) ∧ Below w.heap.size w w')

set_option maxHeartbeats 1000000 in
set_option maxRecDepth 100000 in
theorem parts_any (ao : Option Addr) (m c : Nat) (l : List UInt8) (w : World) (hs : Src w ao m c l) :
    Calls Tryd.prog 20 #[.slice ao m c] w fun e w' => Parted w l e w' := by
  have HS := keep hs
  have hll := hs.len
  have hcap := hs.cap
  clear hs
  by_cases h9 : m < 9
  · have h9' : (m : Int) < 9 := by omega
    go_enter Tryd.func20, Tryd.ntmps20
    go_wp2
    (try simp only [Exit.inBlock, Exit.then]); refine bodyPost_ret (results_tmp4 rfl _ _ _) rfl ?_
    exact .inr ⟨fun h => by have := h.1; omega, _, _, _, _, rfl, Below.refl _ _⟩
  · have h9' : ¬ ((m : Int) < 9) := by omega
    have hc8 : (8 : Int) ≤ (c : Int) := by omega
    obtain ⟨b, off, rfl, hbw, hby⟩ := HS.out.form (by omega)
    go_enter Tryd.func20, Tryd.ntmps20
    go_wp2_with fail
    refine (takeFix_any _ 8 c (l.take 8) w (by omega) (HS.out.head 8 (by omega))).mono ?_
    rintro e w1 hcases
    rw [List.take_of_length_le (show (l.take 8).length ≤ 8 by rw [List.length_take]; omega)] at hcases
    rcases hcases with ⟨v1, _, hN, rfl, hn1⟩ | ⟨hN, rfl, hb1⟩
    · have b1 := keep hn1.2
      have hcell : w1.cell? ⟨b, off + 8, none⟩ = some (.int .u8 ((fn l 8).toNat : Int)) := by
        rw [hn1.2.cell (p := ⟨b, off + 8, none⟩) hbw]; exact hby 8 (by omega)
      clear hn1 hby
      obtain ⟨N, hNN⟩ : ∃ N, big (l.take 8) = N := ⟨_, rfl⟩
      obtain ⟨y, hy⟩ : ∃ y, fn l 8 = y := ⟨_, rfl⟩
      have hi8 : (8 : Int) < (m : Int) := by omega
      have hc9 : (9 : Int) ≤ (c : Int) := by omega
      have hm9 : (9 : Int) ≤ (m : Int) := by omega
      have HT := keep ((HS.out.below b1.out).tailS 9 (by omega))
      have HT0 := keep (fun h => (HS.out.below b1.out).tail0 9 h)
      rw [hy] at hcell
      have HY := keep hy
      have HNN := keep hNN
      rw [hNN] at hN ⊢
      clear hy hNN
      have hy256 : (y.toNat : Int) < 256 := by have := y.toNat_lt; omega
      by_cases hck : 9 = c
      · have HT1 := keep (HT0.out hck)
        clear HT0 HT
        subst hck
        obtain rfl : m = 9 := by omega
        go_wp2_with fail
        go_quiet (fail)
        obtain ⟨ws, hws⟩ : ∃ ws, ws = w1.drewN nq := ⟨_, rfl⟩
        rw [← hws]
        have b2 : Hid (Below w.heap.size w ws) := by rw [hws]; exact below_drewN b1.out nq
        have HS2 := keep ((HT1.out).below (show Below w1.heap.size w1 ws by rw [hws]; exact below_drewN (Below.refl _ _) nq))
        clear hws hcell
        by_cases hf : Fit (N : Int) (y.toNat : Int) (0)
        · have HF := keep hf
          clear hf
          go_wp2_with fail
          refine (check_yes (N : Int) (y.toNat : Int) (0) ws HF.out).mono ?_
          rintro e w3 ⟨rfl, hb3⟩
          have b3 := keep (b2.out.trans (hb3.mono b2.out.size))
          have HS3 := keep (HS2.out.below hb3)
          clear hb3
          go_wp2
          (try simp only [Exit.inBlock, Exit.then]); refine bodyPost_ret (results_tmp4 rfl _ _ _) rfl ?_
          have h1 := HF.out.1.2
          have h2 := HF.out.2.2
          refine .inl ⟨⟨by omega, by rw [HNN.out]; omega, by omega⟩, some ⟨b, off, none⟩, 0, ?_, ?_, b3.out⟩
          · rw [HNN.out, HY.out, hll]; rfl
          · rw [hll]; exact HS3.out
        · have HF := keep hf
          clear hf
          go_wp2_with fail
          refine (check_no (N : Int) (y.toNat : Int) (0) ws HF.out).mono ?_
          rintro e w3 ⟨s, rfl, hb3⟩
          have b3 := keep (b2.out.trans (hb3.mono b2.out.size))
          clear hb3
          go_wp2
          (try simp only [Exit.inBlock, Exit.then]); refine bodyPost_ret (results_tmp4 rfl _ _ _) rfl ?_
          refine .inr ⟨fun h => HF.out ⟨⟨by omega, ?_⟩, ⟨by omega, by omega⟩, ?_⟩, _, _, _, _, rfl, b3.out⟩
          · have := h.2.1
            rw [HNN.out] at this
            omega
          · have := h.2.2
            omega
      · have hck1 : ¬ ((9 : Int) = (c : Int)) := by omega
        go_wp2_with fail
        go_quiet (fail)
        obtain ⟨ws, hws⟩ : ∃ ws, ws = w1.drewN nq := ⟨_, rfl⟩
        rw [← hws]
        have b2 : Hid (Below w.heap.size w ws) := by rw [hws]; exact below_drewN b1.out nq
        have HS2 := keep ((HT.out).below (show Below w1.heap.size w1 ws by rw [hws]; exact below_drewN (Below.refl _ _) nq))
        clear hws hcell
        by_cases hf : Fit (N : Int) (y.toNat : Int) (m - 9)
        · have HF := keep hf
          clear hf
          go_wp2_with fail
          refine (check_yes (N : Int) (y.toNat : Int) (m - 9) ws HF.out).mono ?_
          rintro e w3 ⟨rfl, hb3⟩
          have b3 := keep (b2.out.trans (hb3.mono b2.out.size))
          have HS3 := keep (HS2.out.below hb3)
          clear hb3
          go_wp2
          (try simp only [Exit.inBlock, Exit.then]); refine bodyPost_ret (results_tmp4 rfl _ _ _) rfl ?_
          have h1 := HF.out.1.2
          have h2 := HF.out.2.2
          refine .inl ⟨⟨by omega, by rw [HNN.out]; omega, by omega⟩, some ⟨b, off + 9, none⟩, c - 9, ?_, ?_, b3.out⟩
          · rw [HNN.out, HY.out, hll]; rfl
          · rw [hll]; exact HS3.out
        · have HF := keep hf
          clear hf
          go_wp2_with fail
          refine (check_no (N : Int) (y.toNat : Int) (m - 9) ws HF.out).mono ?_
          rintro e w3 ⟨s, rfl, hb3⟩
          have b3 := keep (b2.out.trans (hb3.mono b2.out.size))
          clear hb3
          go_wp2
          (try simp only [Exit.inBlock, Exit.then]); refine bodyPost_ret (results_tmp4 rfl _ _ _) rfl ?_
          refine .inr ⟨fun h => HF.out ⟨⟨by omega, ?_⟩, ⟨by omega, by omega⟩, ?_⟩, _, _, _, _, rfl, b3.out⟩
          · have := h.2.1
            rw [HNN.out] at this
            omega
          · have := h.2.2
            omega
    · have b1 := keep hb1
      clear hb1 hby
      go_wp2
      (try simp only [Exit.inBlock, Exit.then]); refine bodyPost_ret (results_tmp4 rfl _ _ _) rfl ?_
      refine .inr ⟨fun h => ?_, _, _, _, _, rfl, b1.out⟩
      have := h.2.1
      omega
end Go.Proofs.YtomceheophnjnaaDoor
