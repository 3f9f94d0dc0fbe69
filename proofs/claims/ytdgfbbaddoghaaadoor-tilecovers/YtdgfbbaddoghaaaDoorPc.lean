/- The walks of cut and Root. -/
import Derived.Test.YtdgfbbaddoghaaaDoorPb
import Derived.Test.YtdgfbbaddoghaaaDoorKt
import Derived.Test.YtdgfbbaddoghaaaDoorPq
import Derived.Lib.BitFns
namespace Go.Proofs.YtdgfbbaddoghaaaDoor
open Go.RowKit

theorem bitLen_log2 : ∀ (x : Nat), x ≠ 0 → x < 2 ^ 64 → Lib.bitLen x = Nat.log2 x + 1 := by
  intro x
  induction x using Nat.strongRecOn with
  | _ x ih =>
    intro h0 hx
    rw [Lib.bitLen_half x h0 hx]
    by_cases h1 : x = 1
    · subst h1
      decide +kernel
    · have h2 := ih (x / 2) (by omega) (by omega) (by omega)
      rw [h2]
      conv => rhs; rw [Nat.log2_def, if_pos (by omega)]
      omega
set_option maxHeartbeats 2000000 in
set_option maxRecDepth 100000 in
theorem cut_any (n : Nat) (w : World) (h2 : 2 ≤ n) (hb : n ≤ 4611686018427387904) :
    Calls Tryd.prog 34 #[.int .i64 (n : Int)] w fun e w' => e = .returned (.int .i64 (Mt.cut n : Int)) ∧ Below w.heap.size w w' := by
  have hl : Mt.lv n = Nat.log2 (n - 1) + 1 := by unfold Mt.lv; rw [if_neg (by omega)]
  have hbl := bitLen_log2 (n - 1) (by omega) (by have : (4611686018427387904 : Nat) < 2 ^ 64 := by decide
                                                 omega)
  have hcut : Mt.cut n = 2 ^ (Lib.bitLen (n - 1) - 1) := by unfold Mt.cut; rw [hl, hbl]
  have hlt := Mt.cut_lt h2
  have e1 : (n : Int) - 1 = ((n - 1 : Nat) : Int) := by omega
  have LN := keep (sh_bits_Len ((n - 1 : Nat) : Int) w (by omega) (by omega))
  rw [Int.toNat_natCast] at LN
  obtain ⟨k, hk⟩ : ∃ k, Lib.bitLen (n - 1) = k + 1 := ⟨_, hbl⟩
  rw [hk] at LN hcut
  rw [Nat.add_sub_cancel] at hcut
  rw [hcut] at hlt ⊢
  have hk62 : k < 62 := by
    have : (2:Nat) ^ k < 2 ^ 62 := by omega
    exact (Nat.pow_lt_pow_iff_right (by decide)).1 this
  obtain ⟨x, hx⟩ : ∃ x, n - 1 = x := ⟨_, rfl⟩
  rw [hx] at e1 LN
  have x0 : (0 : Int) ≤ (x : Int) := by omega
  have x1 : (x : Int) < 9223372036854775808 := by omega
  have k1 : ((k + 1 : Nat) : Int) - 1 = (k : Int) := by omega
  have k0 : (0 : Int) ≤ (k : Int) := by omega
  clear hl hbl hcut hk hx
  go_enter Tryd.func34, Tryd.ntmps34
  go_wp2_with fail
  refine LN.out.mono ?_
  rintro e w1 ⟨rfl, rfl⟩
  go_wp2
  go_ret
  refine ⟨?_, Below.refl _ _⟩
  have e2 : wrap64 ((2 : Int) ^ k) = ((2 ^ k : Nat) : Int) := by
    have e3 : (2 : Int) ^ k = ((2 ^ k : Nat) : Int) := by simp
    rw [e3]
    obtain ⟨y, hy⟩ : ∃ y, 2 ^ k = y := ⟨_, rfl⟩
    rw [hy] at hlt ⊢
    unfold wrap64
    omega
  show Ending.returned (.int .i64 (wrap64 ((2 : Int) ^ k))) = _
  rw [e2]
set_option maxHeartbeats 2000000 in
set_option maxRecDepth 100000 in
theorem root_any : ∀ (n : Nat) (es : List (List UInt8)), es.length = n → ∀ (ao : Option Addr) (c : Nat) (w : World), Ld w → RSrc strKind w ao n c es → (∀ e ∈ es, e.length ≤ 1099511627776) → n ≤ 1099511627776 →
    Calls Tryd.prog 16 #[.slice ao n c] w fun e w' => e = .returned (.string ⟨(rootL es).toArray⟩) ∧ Below w.heap.size w w' := by
  intro n
  induction n using Nat.strongRecOn with
  | _ n ih =>
    intro es hes ao c w hL hs hl hn
    have HLd := keep hL
    clear hL
    have IH := keep ih
    have HS := keep hs
    have HL := keep hl
    have hcap := hs.cap
    clear ih hl
    by_cases h0 : n = 0
    · subst h0
      have he : es = [] := List.length_eq_zero_iff.1 hes
      subst he
      have SM := keep (sumK none 0 0 [] w (by decide) (by decide) HLd.out (Src.empty (fun _ => rfl)))
      have hR : rootL [] = Sha.sum [] := Mt.root_nil _ _
      rw [hR]
      clear hs hR
      go_enter Tryd.func16, Tryd.ntmps16
      go_wp2_with fail
      refine SM.out.mono ?_
      rintro e w2 ⟨rfl, hb⟩
      have BF := keep hb
      clear hb
      go_wp2
      go_ret
      exact ⟨rfl, BF.out⟩
    obtain ⟨b, off, rfl, hbw, hcell⟩ := strs_at hs (by omega)
    have n0 : ((n : Int) == 0) = false := by simp; omega
    have n0d : decide ((n : Int) = 0) = false := decide_eq_false (by omega)
    have nn0 : ¬ (n : Int) = 0 := by omega
    by_cases h1 : n = 1
    · subst h1
      obtain ⟨a, ha⟩ : ∃ a, es = [a] := by
        match es, hes with
        | [a], _ => exact ⟨a, rfl⟩
      subst ha
      have c0 := hcell 0 a rfl
      rw [Nat.add_zero] at c0
      have hR : rootL [a] = a := Mt.root_one _ _ _
      rw [hR]
      clear hs hR hcell
      go_enter Tryd.func16, Tryd.ntmps16
      go_wp2
      go_ret
      exact ⟨rfl, Below.refl _ _⟩
    have h2 : 2 ≤ n := by omega
    have n1 : ¬ (n : Int) = 1 := by omega
    have hlt := Mt.cut_lt h2
    have hpo := Mt.cut_pos n
    have CU := keep (cut_any n w h2 (by omega))
    have hR : rootL es = nodeL (rootL (es.take (Mt.cut n))) (rootL (es.drop (Mt.cut n))) := by unfold rootL; rw [Mt.root_two nodeL nilL (l := es) (by omega), hes]
    rw [hR]
    obtain ⟨k, hk⟩ : ∃ k, Mt.cut n = k := ⟨_, rfl⟩
    rw [hk] at hlt hpo CU ⊢
    obtain ⟨X, hX⟩ : ∃ X, rootL (es.take k) = X := ⟨_, rfl⟩
    obtain ⟨Y, hY⟩ : ∃ Y, rootL (es.drop k) = Y := ⟨_, rfl⟩
    rw [hX, hY]
    have RA : Hid (∀ w', Below w.heap.size w w' → Calls Tryd.prog 16 #[.slice (some ⟨b, off, none⟩) k c] w' fun e w'' => e = .returned (.string ⟨X.toArray⟩) ∧ Below w.heap.size w w'') := fun w' hb => by
      refine (IH.out k hlt (es.take k) (by rw [List.length_take]; omega) _ c w' (HLd.out.below hb) ((HS.out.below strKind_ok hb).head strKind_ok k (by omega)) (fun e he => HL.out e (List.mem_of_mem_take he)) (by omega)).mono ?_
      rintro e w'' ⟨rfl, hb2⟩
      exact ⟨by rw [hX], hb.trans (hb2.mono hb.size)⟩
    have RB : Hid (∀ w', Below w.heap.size w w' → Calls Tryd.prog 16 #[.slice (some ⟨b, off + k, none⟩) (n - k) (c - k)] w' fun e w'' => e = .returned (.string ⟨Y.toArray⟩) ∧ Below w.heap.size w w'') := fun w' hb => by
      refine (IH.out (n - k) (by omega) (es.drop k) (by rw [List.length_drop]; omega) _ (c - k) w' (HLd.out.below hb) (strs_tail (HS.out.below strKind_ok hb) k (by omega)) (fun e he => HL.out e (List.mem_of_mem_drop he)) (by omega)).mono ?_
      rintro e w'' ⟨rfl, hb2⟩
      exact ⟨by rw [hY], hb.trans (hb2.mono hb.size)⟩
    have XL : Hid (X.length + Y.length ≤ 140737488354000) := by
      have q1 := rootL_len (es := es.take k) (fun e he => HL.out e (List.mem_of_mem_take he))
      have q2 := rootL_len (es := es.drop k) (fun e he => HL.out e (List.mem_of_mem_drop he))
      rw [hX] at q1
      rw [hY] at q2
      show _ ≤ _
      omega
    have k0 : (0 : Int) ≤ (k : Int) := by omega
    have k1 : (k : Int) ≤ (n : Int) := by omega
    have k2 : (k : Int) ≤ (c : Int) := by omega
    have k3 : (n : Int) ≤ (c : Int) := by omega
    have k4 : ¬ k = 0 := by omega
    have k5 : ¬ c = k := by omega
    have e1 : (n : Int) - (k : Int) = ((n - k : Nat) : Int) := by omega
    have e2 : (c : Int) - (k : Int) = ((c - k : Nat) : Int) := by omega
    clear hs hcell hR hX hY hk hbw
    go_enter Tryd.func16, Tryd.ntmps16
    go_wp2_with fail
    refine CU.out.mono ?_
    rintro e w1 ⟨rfl, hb1⟩
    have b1 := keep hb1
    clear hb1 CU
    go_wp2_with fail
    refine wp_region_held_drew (S := fun w' => Below w.heap.size w w') (by kernel_rfl) (b1.out.drew) (fun hZ => ?_)
    refine takeH (i := 0) 17 (v := .slice (some ⟨b, off, none⟩) n c) rfl rfl (by kernel_rfl) (by kernel_rfl) (by kernel_rfl) (fun _ _ _ h => h) (Or.inl ⟨by rfl, ?_⟩) (by assumption) ?_
    · intro w' hSw'
      go_simp
    simp only [Act.put, List.setIfInBounds_toArray, List.set_cons_zero, List.set_cons_succ]
    refine takeH (i := 1) 18 (v := .int .i64 (k : Int)) rfl rfl (by kernel_rfl) (by kernel_rfl) (by kernel_rfl) (fun _ _ _ h => h) (Or.inl ⟨by rfl, ?_⟩) (by assumption) ?_
    · intro w' hSw'
      go_simp
    simp only [Act.put, List.setIfInBounds_toArray, List.set_cons_zero, List.set_cons_succ]
    refine takeH (i := 2) 19 (v := .slice (some ⟨b, off, none⟩) k c) rfl rfl (by kernel_rfl) (by kernel_rfl) (by kernel_rfl) (fun _ _ _ h => h) (Or.inl ⟨by rfl, ?_⟩) (by assumption) ?_
    · intro w' hSw'
      go_simp
    simp only [Act.put, List.setIfInBounds_toArray, List.set_cons_zero, List.set_cons_succ]
    refine takeH (i := 4) 21 (v := .slice (some ⟨b, off, none⟩) n c) rfl rfl (by kernel_rfl) (by kernel_rfl) (by kernel_rfl) (fun _ _ _ h => h) (Or.inl ⟨by rfl, ?_⟩) (by assumption) ?_
    · intro w' hSw'
      go_simp
    simp only [Act.put, List.setIfInBounds_toArray, List.set_cons_zero, List.set_cons_succ]
    refine takeH (i := 5) 0x16 (v := .int .i64 (k : Int)) rfl rfl (by kernel_rfl) (by kernel_rfl) (by kernel_rfl) (fun _ _ _ h => h) (Or.inl ⟨by rfl, ?_⟩) (by assumption) ?_
    · intro w' hSw'
      go_simp
    simp only [Act.put, List.setIfInBounds_toArray, List.set_cons_zero, List.set_cons_succ]
    refine takeH (i := 6) 23 (v := .slice (some ⟨b, off + k, none⟩) (n - k) (c - k)) rfl rfl (by kernel_rfl) (by kernel_rfl) (by kernel_rfl) (fun _ _ _ h => h) (Or.inl ⟨by rfl, ?_⟩) (by assumption) ?_
    · intro w' hSw'
      go_simp
    simp only [Act.put, List.setIfInBounds_toArray, List.set_cons_zero, List.set_cons_succ]
    refine wpAnyH_ready (rs := [3]) (by kernel_rfl) (by simp) ?_
    refine AllReadyH.cons rfl (fun K hK => ?_) AllReadyH.nil
    go_simp
    refine (RA.out _ b1.out.drew).mono ?_
    rintro e w2 ⟨rfl, hb2⟩
    have b2 := keep hb2
    clear hb2
    go_wp2_with fail
    refine hK.out _ _ (b2.out) (fun hZ1 => ?_)
    clear hK K
    refine wpAnyH_ready (rs := [7]) (by kernel_rfl) (by simp) ?_
    refine AllReadyH.cons rfl (fun K hK => ?_) AllReadyH.nil
    go_simp
    refine (RB.out w2 b2.out).mono ?_
    rintro e w3 ⟨rfl, hb3⟩
    have b3 := keep hb3
    clear hb3
    go_wp2_with fail
    refine hK.out _ _ (b3.out) (fun hZ2 => ?_)
    clear hK K
    refine wpAnyH_ready (rs := [8]) (by kernel_rfl) (by simp) ?_
    refine AllReadyH.cons rfl (fun K hK => ?_) AllReadyH.nil
    go_simp
    refine (node_any X Y w3 XL.out (HLd.out.below b3.out)).mono ?_
    rintro e w4 ⟨rfl, hb4⟩
    have b4 := keep (b3.out.trans (hb4.mono b3.out.size))
    clear hb4
    go_wp2_with fail
    refine hK.out _ _ (b4.out) (fun hZ3 => ?_)
    clear hK K
    refine takeH (i := 9) 2 (v := .string ⟨(nodeL X Y).toArray⟩) rfl rfl (by kernel_rfl) (by kernel_rfl) (by kernel_rfl) (fun _ _ _ h => h) (Or.inl ⟨by rfl, ?_⟩) (by assumption) ?_
    · intro w' hSw'
      go_simp
    simp only [Act.put, List.setIfInBounds_toArray, List.set_cons_zero, List.set_cons_succ]
    refine wpAnyH_done (by kernel_rfl) ?_ _
    go_wp2
    go_ret
    exact ⟨rfl, b4.out⟩
end Go.Proofs.YtdgfbbaddoghaaaDoor
