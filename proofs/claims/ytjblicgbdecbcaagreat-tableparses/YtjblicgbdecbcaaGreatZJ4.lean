/- The walk of block's putEntry. -/
import Derived.Test.YtjblicgbdecbcaaGreatZJ3
import Derived.Test.YtjblicgbdecbcaaGreatZTx
namespace Go.Proofs.YtjblicgbdecbcaaGreat
open Go.RowKit
open Sk (Ent)

theorem cl_nat8 (n : Nat) (h : n ≤ 4611686018427387903) : cl (n : Int) = n := by unfold cl; omega
/-- Bytes laid by a call: where they lie, and what they are. -/
def Laid8 (W : World) (L : List UInt8) (e : Ending) (w' : World) : Prop := ∃ a c, e = .returned (.slice a L.length c) ∧ Src w' a L.length c L ∧ w'.ownsRow W.heap.size 5 1 (.slice a L.length c) L.length (bv L) ∧ Below W.heap.size W w'
theorem laid8_of {W w w' : World} {v : Value} {n : Nat} {L : List UInt8} (hb : Below W.heap.size W w) (h : New w w' v n L) : Laid8 W L (.returned v) w' := by
  obtain ⟨a, c, rfl, hs, _⟩ := h.src
  have := h.len
  subst this
  exact ⟨a, c, rfl, hs, own_base h.1 (fun g hg => Nat.le_trans hb.size (h.1.lt g hg).1), hb.trans (h.2.mono hb.size)⟩
theorem putNum_laid {W : World} {ao : Option Addr} {m c : Nat} {l : List UInt8} {n : Nat} {w : World} (hb : Below W.heap.size W w) (hm : m + 9 ≤ 140737488355328) (hn : n ≤ 4611686018427387903) (hs : Src w ao m c l) :
    Calls Tryz.prog 25 #[.slice ao m c, .int .i64 (n : Int)] w (Laid8 W (l ++ num n)) := by
  refine (putNum_any ao m c l (n : Int) w hm hs).mono ?_
  rintro e w' ⟨v, rfl, h⟩
  rw [cl_nat8 n hn] at h
  exact laid8_of hb h
theorem putText_laid {W : World} {ao : Option Addr} {m c : Nat} {l s : List UInt8} {w : World} (hb : Below W.heap.size W w) (hm : m + s.length + 9 ≤ 140737488355328) (hs : Src w ao m c l) :
    Calls Tryz.prog 27 #[.slice ao m c, .string ⟨s.toArray⟩] w (Laid8 W (l ++ (num s.length ++ s))) := by
  refine (putText_any ao m c l ⟨s.toArray⟩ s.length s w rfl rfl hm hs).mono ?_
  rintro e w' ⟨v, rfl, h⟩
  exact laid8_of hb h
set_option maxHeartbeats 2000000 in
set_option maxRecDepth 100000 in
theorem putEntry_gen (bo : Option Addr) (m bc : Nat) (l : List UInt8) (b off K xkc : Nat) (xkey : List UInt8) (q : Nat) (xgone : Bool) (xvp : Option Addr) (V xvc : Nat) (xval : List UInt8) (ap : Option Addr) (A ac : Nat) (ahead : List UInt8) (T mk : Nat) (w : World) (hm : m ≤ 1000000) (hK : 1 ≤ K ∧ K ≤ 64) (hq : q ≤ 1099511627776) (hV : V ≤ 1024) (hA : A ≤ 1000000) (hT : Bq.share xkey ahead = T) (hmk : mk = 2 * q + (if xgone then 1 else 0))
    (hs : Src w bo m bc l) (hx : Src w (some ⟨b, off, none⟩) K xkc xkey) (hv : Src w xvp V xvc xval) (ha : Src w ap A ac ahead) (hc : T < xkc) :
    Calls Tryz.prog 57 #[.slice bo m bc, .agg #[.slice (some ⟨b, off, none⟩) K xkc, .int .i64 (q : Int), .bool xgone, .slice xvp V xvc], .slice ap A ac] w (Laid8 w (((l ++ num T) ++ (num (xkey.drop T).length ++ xkey.drop T) ++ num mk) ++ (num xval.length ++ xval))) := by
  have hTK : T ≤ K := by rw [← hT, ← hx.len]; exact Bq.share_left _ _
  have hkc := hx.cap
  have hlD : (xkey.drop T).length = K - T := by rw [List.length_drop, hx.len]
  have hlV := hv.len
  obtain ⟨W1, hW1⟩ : ∃ W1, w.alloc (.cells #[.slice (some ⟨b, off, none⟩) K xkc, .int .i64 (q : Int), .bool xgone, .slice xvp V xvc] 37) = W1 := ⟨_, rfl⟩
  have b1 : Hid (Below w.heap.size w W1) := by rw [← hW1]; exact (Below.refl _ _).alloc (Nat.le_refl _) _
  have g1 : Hid (W1.heap[w.heap.size]? = some (.cells #[.slice (some ⟨b, off, none⟩) K xkc, .int .i64 (q : Int), .bool xgone, .slice xvp V xvc] 37)) := by rw [← hW1]; exact heap_alloc_new w _
  have CF : Hid (∀ w', Below W1.heap.size W1 w' → w'.cell? ⟨w.heap.size, 0, none⟩ = some (.slice (some ⟨b, off, none⟩) K xkc) ∧ w'.cell? ⟨w.heap.size, 1, none⟩ = some (.int .i64 (q : Int)) ∧ w'.cell? ⟨w.heap.size, 2, none⟩ = some (.bool xgone) ∧ w'.cell? ⟨w.heap.size, 3, none⟩ = some (.slice xvp V xvc)) := fun w' hb => ⟨below_cell hb (cell_of_row _ _ _ _ _ _ g1.out), below_cell hb (cell_of_row _ _ _ _ _ _ g1.out), below_cell hb (cell_of_row _ _ _ _ _ _ g1.out), below_cell hb (cell_of_row _ _ _ _ _ _ g1.out)⟩
  have SH : Hid (Calls Tryz.prog 80 #[.slice (some ⟨b, off, none⟩) K xkc, .slice ap A ac] W1 fun e w' => e = .returned (.int .i64 (T : Int)) ∧ Below W1.heap.size W1 w') := by
    have := shared_any (some ⟨b, off, none⟩) K xkc xkey ap A ac ahead W1 (by omega) (by omega) (hx.below b1.out) (ha.below b1.out)
    rwa [hT] at this
  have P1 : Hid (∀ w', Below W1.heap.size W1 w' → Calls Tryz.prog 25 #[.slice bo m bc, .int .i64 (T : Int)] w' (Laid8 W1 (l ++ num T))) := fun w' hb => putNum_laid hb (by omega) (by omega) ((hs.below b1.out).below hb)
  have KB : Hid (∀ w', Below W1.heap.size W1 w' → (convert 24 9 (.slice (some ⟨b, off + T, none⟩) (K - T) (xkc - T))).run Tryz.prog w' = .ok (.string ⟨(xkey.drop T).toArray⟩) w') := fun w' hb' => by
    have hb := b1.out.trans (hb'.mono b1.out.size)
    exact conv_src ((hx.below hb).tailS T (by omega))
  have KV : Hid (∀ w', Below W1.heap.size W1 w' → (convert 24 9 (.slice xvp V xvc)).run Tryz.prog w' = .ok (.string ⟨xval.toArray⟩) w') := fun w' hb' => by
    have hb := b1.out.trans (hb'.mono b1.out.size)
    exact conv_src (hv.below hb)
  have nT := Bq.num_len (n := T) (by omega)
  have nD := Bq.num_len (n := (xkey.drop T).length) (by omega)
  have nM := Bq.num_len (n := mk) (by rw [hmk]; split <;> omega)
  have hmkl : mk ≤ 4611686018427387903 := by rw [hmk]; split <;> omega
  have hl := hs.len
  obtain ⟨c0, c1, c2, c3⟩ := CF.out W1 (Below.refl _ _)
  obtain ⟨L1, hL1⟩ : ∃ L1, l ++ num T = L1 := ⟨_, rfl⟩
  have l1 : L1.length ≤ m + 9 := by rw [← hL1, List.length_append]; omega
  obtain ⟨L2, hL2⟩ : ∃ L2, L1 ++ (num (xkey.drop T).length ++ xkey.drop T) = L2 := ⟨_, rfl⟩
  have l2 : L2.length ≤ m + 82 := by rw [← hL2, List.length_append, List.length_append]; omega
  obtain ⟨L3, hL3⟩ : ∃ L3, L2 ++ num mk = L3 := ⟨_, rfl⟩
  have l3 : L3.length ≤ m + 91 := by rw [← hL3, List.length_append]; omega
  obtain ⟨L4, hL4⟩ : ∃ L4, L3 ++ (num xval.length ++ xval) = L4 := ⟨_, rfl⟩
  rw [hL1, hL2, hL3, hL4]
  rw [hL1] at P1
  have P2 : Hid (∀ w' a c, Below W1.heap.size W1 w' → Src w' a L1.length c L1 → Calls Tryz.prog 27 #[.slice a L1.length c, .string ⟨(xkey.drop T).toArray⟩] w' (Laid8 W1 L2)) := fun w' a c hb h => by
    rw [← hL2]; exact putText_laid hb (by omega) h
  have P3 : Hid (∀ w' a c, Below W1.heap.size W1 w' → Src w' a L2.length c L2 → Calls Tryz.prog 25 #[.slice a L2.length c, .int .i64 (mk : Int)] w' (Laid8 W1 L3)) := fun w' a c hb h => by
    rw [← hL3]; exact putNum_laid hb (by omega) hmkl h
  have P4 : Hid (∀ w' a c, Below W1.heap.size W1 w' → Src w' a L3.length c L3 → Calls Tryz.prog 27 #[.slice a L3.length c, .string ⟨xval.toArray⟩] w' (Laid8 W1 L4)) := fun w' a c hb h => by
    rw [← hL4]; exact putText_laid hb (by omega) h
  clear hL1 hL2 hL3 hL4 hs hx hv ha hT nT nD nM hlD hl hlV
  obtain ⟨n1, hn1⟩ : ∃ n, L1.length = n := ⟨_, rfl⟩
  obtain ⟨n2, hn2⟩ : ∃ n, L2.length = n := ⟨_, rfl⟩
  obtain ⟨n3, hn3⟩ : ∃ n, L3.length = n := ⟨_, rfl⟩
  unfold Laid8 at P1 P2 P3 P4
  rw [hn1] at P1 P2 l1
  rw [hn2] at P2 P3 l2
  rw [hn3] at P3 P4 l3
  clear hn1 hn2 hn3
  have hq2 : IntKind.i64.wrap (2 * (q : Int)) = 2 * (q : Int) := wrap_small _ (by omega) (by omega)
  have hq3 : IntKind.i64.wrap (2 * (q : Int) + 1) = 2 * (q : Int) + 1 := wrap_small _ (by omega) (by omega)
  have i1 : ¬ xkc = T := by omega
  have i2 : (0 : Int) ≤ (T : Int) := by omega
  have i3 : (T : Int) ≤ (K : Int) := by omega
  go_enter Tryz.func57, Tryz.ntmps57
  go_wp2_with fail
  refine SH.out.mono ?_
  rintro e w2 ⟨rfl, hb2⟩
  have b2 := keep hb2
  obtain ⟨d0, d1, d2, d3⟩ := CF.out w2 hb2
  clear hb2 SH hW1
  cases xgone
  · have em : (mk : Int) = 2 * (q : Int) := by rw [hmk]; simp
    rw [em] at P3
    go_wp2_with fail
    refine wp_region_held_drew (S := fun w' => Below W1.heap.size W1 w') (by kernel_rfl) (b2.out.drew) (fun hHeld => ?_)
    refine takeH (i := 0) 20 (v := .slice bo m bc) rfl rfl (by kernel_rfl) (by kernel_rfl) (by kernel_rfl) (fun _ _ _ h => h) (Or.inl ⟨by rfl, ?_⟩) (by assumption) ?_
    · intro w' hSw'
      go_simp
    simp only [Act.put, List.setIfInBounds_toArray, List.set_cons_zero, List.set_cons_succ]
    refine takeH (i := 1) 21 (v := .int .i64 (T : Int)) rfl rfl (by kernel_rfl) (by kernel_rfl) (by kernel_rfl) (fun _ _ _ h => h) (Or.inl ⟨by rfl, ?_⟩) (by assumption) ?_
    · intro w' hSw'
      go_simp
    simp only [Act.put, List.setIfInBounds_toArray, List.set_cons_zero, List.set_cons_succ]
    refine takeH (i := 3) 23 (v := .pointer (some ⟨w.heap.size, 0, none⟩)) rfl rfl (by kernel_rfl) (by kernel_rfl) (by kernel_rfl) (fun _ _ _ h => h) (Or.inl ⟨by rfl, ?_⟩) (by assumption) ?_
    · intro w' hSw'
      go_simp
    simp only [Act.put, List.setIfInBounds_toArray, List.set_cons_zero, List.set_cons_succ]
    refine takeH (i := 4) 24 (v := .slice (some ⟨b, off, none⟩) K xkc) rfl rfl (by kernel_rfl) (by kernel_rfl) (by kernel_rfl) (fun _ _ _ h => h) (Or.inl ⟨by rfl, ?_⟩) (by assumption) ?_
    · intro w' hSw'
      obtain ⟨d0, d1, d2, d3⟩ := CF.out w' hSw'
      go_simp
    simp only [Act.put, List.setIfInBounds_toArray, List.set_cons_zero, List.set_cons_succ]
    refine takeH (i := 5) 25 (v := .int .i64 (T : Int)) rfl rfl (by kernel_rfl) (by kernel_rfl) (by kernel_rfl) (fun _ _ _ h => h) (Or.inl ⟨by rfl, ?_⟩) (by assumption) ?_
    · intro w' hSw'
      go_simp
    simp only [Act.put, List.setIfInBounds_toArray, List.set_cons_zero, List.set_cons_succ]
    refine takeH (i := 6) 26 (v := .slice (some ⟨b, off + T, none⟩) (K - T) (xkc - T)) rfl rfl (by kernel_rfl) (by kernel_rfl) (by kernel_rfl) (fun _ _ _ h => h) (Or.inl ⟨by rfl, ?_⟩) (by assumption) ?_
    · intro w' hSw'
      go_simp
    simp only [Act.put, List.setIfInBounds_toArray, List.set_cons_zero, List.set_cons_succ]
    refine takeH (i := 7) 27 (v := .string ⟨(xkey.drop T).toArray⟩) rfl rfl (by kernel_rfl) (by kernel_rfl) (by kernel_rfl) (fun _ _ _ h => h) (Or.inl ⟨by rfl, ?_⟩) (by assumption) ?_
    · intro w' hSw'
      have cv := KB.out w' hSw'
      go_simp
    simp only [Act.put, List.setIfInBounds_toArray, List.set_cons_zero, List.set_cons_succ]
    refine wpAnyH_ready (rs := [2]) (by kernel_rfl) (by simp) ?_
    refine AllReadyH.cons rfl (fun K hK => ?_) AllReadyH.nil
    go_simp
    refine (P1.out _ b2.out.drew).mono ?_
    rintro e w3 ⟨a3, k3, rfl, hs3, ho3, hb3⟩
    have b3 := keep hb3
    clear ho3
    have S3 := keep hs3
    clear hb3 hs3
    go_wp2_with fail
    refine hK.out _ _ (b3.out) (fun hHeld2 => ?_)
    clear hK K
    refine wpAnyH_ready (rs := [8]) (by kernel_rfl) (by simp) ?_
    refine AllReadyH.cons rfl (fun K hK => ?_) AllReadyH.nil
    go_simp
    refine (P2.out _ a3 k3 b3.out S3.out).mono ?_
    rintro e w4 ⟨a4, k4, rfl, hs4, ho4, hb4⟩
    have b4 := keep hb4
    clear ho4
    have S4 := keep hs4
    clear hb4 hs4
    go_wp2_with fail
    refine hK.out _ _ (b4.out) (fun hHeld3 => ?_)
    clear hK K
    refine takeH (i := 9) 0 (v := .slice a4 n2 k4) rfl rfl (by kernel_rfl) (by kernel_rfl) (by kernel_rfl) (fun _ _ _ h => h) (Or.inl ⟨by rfl, ?_⟩) (by assumption) ?_
    · intro w' hSw'
      go_simp
    simp only [Act.put, List.setIfInBounds_toArray, List.set_cons_zero]
    refine wpAnyH_done (by kernel_rfl) ?_ _
    go_wp2_with fail
    refine wp_region_held_drew (S := fun w' => Below W1.heap.size W1 w') (by kernel_rfl) (b4.out.drew) (fun hHeld4 => ?_)
    refine takeH (i := 0) 29 (v := .slice a4 n2 k4) rfl rfl (by kernel_rfl) (by kernel_rfl) (by kernel_rfl) (fun _ _ _ h => h) (Or.inl ⟨by rfl, ?_⟩) (by assumption) ?_
    · intro w' hSw'
      go_simp
    simp only [Act.put, List.setIfInBounds_toArray, List.set_cons_zero, List.set_cons_succ]
    refine takeH (i := 1) 30 (v := .int .i64 (2 * (q : Int))) rfl rfl (by kernel_rfl) (by kernel_rfl) (by kernel_rfl) (fun _ _ _ h => h) (Or.inl ⟨by rfl, ?_⟩) (by assumption) ?_
    · intro w' hSw'
      go_simp
    simp only [Act.put, List.setIfInBounds_toArray, List.set_cons_zero, List.set_cons_succ]
    refine takeH (i := 3) 32 (v := .pointer (some ⟨w.heap.size, 3, none⟩)) rfl rfl (by kernel_rfl) (by kernel_rfl) (by kernel_rfl) (fun _ _ _ h => h) (Or.inl ⟨by rfl, ?_⟩) (by assumption) ?_
    · intro w' hSw'
      go_simp
    simp only [Act.put, List.setIfInBounds_toArray, List.set_cons_zero, List.set_cons_succ]
    refine takeH (i := 4) 33 (v := .slice xvp V xvc) rfl rfl (by kernel_rfl) (by kernel_rfl) (by kernel_rfl) (fun _ _ _ h => h) (Or.inl ⟨by rfl, ?_⟩) (by assumption) ?_
    · intro w' hSw'
      obtain ⟨d0, d1, d2, d3⟩ := CF.out w' hSw'
      go_simp
    simp only [Act.put, List.setIfInBounds_toArray, List.set_cons_zero, List.set_cons_succ]
    refine takeH (i := 5) 34 (v := .string ⟨xval.toArray⟩) rfl rfl (by kernel_rfl) (by kernel_rfl) (by kernel_rfl) (fun _ _ _ h => h) (Or.inl ⟨by rfl, ?_⟩) (by assumption) ?_
    · intro w' hSw'
      have cv := KV.out w' hSw'
      go_simp
    simp only [Act.put, List.setIfInBounds_toArray, List.set_cons_zero, List.set_cons_succ]
    refine wpAnyH_ready (rs := [2]) (by kernel_rfl) (by simp) ?_
    refine AllReadyH.cons rfl (fun K hK => ?_) AllReadyH.nil
    go_simp
    refine (P3.out _ a4 k4 b4.out.drew (S4.out.below (Below.refl _ _).drew)).mono ?_
    rintro e w5 ⟨a5, k5, rfl, hs5, ho5, hb5⟩
    have b5 := keep hb5
    clear ho5
    have S5 := keep hs5
    clear hb5 hs5
    go_wp2_with fail
    refine hK.out _ _ (b5.out) (fun hHeld5 => ?_)
    clear hK K
    refine wpAnyH_ready (rs := [6]) (by kernel_rfl) (by simp) ?_
    refine AllReadyH.cons rfl (fun K hK => ?_) AllReadyH.nil
    go_simp
    refine (P4.out _ a5 k5 b5.out S5.out).mono ?_
    rintro e w6 ⟨a6, k6, rfl, hs6, ho6, hb6⟩
    have b6 := keep hb6
    have O6 := keep ho6
    clear ho6
    have S6 := keep hs6
    clear hb6 hs6
    go_wp2_with fail
    refine hK.out _ _ (b6.out) (fun hHeld6 => ?_)
    clear hK K
    refine takeH (i := 7) 6 (v := .slice a6 L4.length k6) rfl rfl (by kernel_rfl) (by kernel_rfl) (by kernel_rfl) (fun _ _ _ h => h) (Or.inl ⟨by rfl, ?_⟩) (by assumption) ?_
    · intro w' hSw'
      go_simp
    simp only [Act.put, List.setIfInBounds_toArray, List.set_cons_zero, List.set_cons_succ]
    refine wpAnyH_done (by kernel_rfl) ?_ _
    go_wp2
    go_ret
    exact ⟨_, _, rfl, S6.out, own_base O6.out (fun g hg => Nat.le_trans b1.out.size (O6.out.lt g hg).1), b1.out.trans (b6.out.mono b1.out.size)⟩
  · have em : (mk : Int) = 2 * (q : Int) + 1 := by rw [hmk]; simp
    rw [em] at P3
    go_wp2_with fail
    refine wp_region_held_drew (S := fun w' => Below W1.heap.size W1 w') (by kernel_rfl) (b2.out.drew) (fun hHeld => ?_)
    refine takeH (i := 0) 20 (v := .slice bo m bc) rfl rfl (by kernel_rfl) (by kernel_rfl) (by kernel_rfl) (fun _ _ _ h => h) (Or.inl ⟨by rfl, ?_⟩) (by assumption) ?_
    · intro w' hSw'
      go_simp
    simp only [Act.put, List.setIfInBounds_toArray, List.set_cons_zero, List.set_cons_succ]
    refine takeH (i := 1) 21 (v := .int .i64 (T : Int)) rfl rfl (by kernel_rfl) (by kernel_rfl) (by kernel_rfl) (fun _ _ _ h => h) (Or.inl ⟨by rfl, ?_⟩) (by assumption) ?_
    · intro w' hSw'
      go_simp
    simp only [Act.put, List.setIfInBounds_toArray, List.set_cons_zero, List.set_cons_succ]
    refine takeH (i := 3) 23 (v := .pointer (some ⟨w.heap.size, 0, none⟩)) rfl rfl (by kernel_rfl) (by kernel_rfl) (by kernel_rfl) (fun _ _ _ h => h) (Or.inl ⟨by rfl, ?_⟩) (by assumption) ?_
    · intro w' hSw'
      go_simp
    simp only [Act.put, List.setIfInBounds_toArray, List.set_cons_zero, List.set_cons_succ]
    refine takeH (i := 4) 24 (v := .slice (some ⟨b, off, none⟩) K xkc) rfl rfl (by kernel_rfl) (by kernel_rfl) (by kernel_rfl) (fun _ _ _ h => h) (Or.inl ⟨by rfl, ?_⟩) (by assumption) ?_
    · intro w' hSw'
      obtain ⟨d0, d1, d2, d3⟩ := CF.out w' hSw'
      go_simp
    simp only [Act.put, List.setIfInBounds_toArray, List.set_cons_zero, List.set_cons_succ]
    refine takeH (i := 5) 25 (v := .int .i64 (T : Int)) rfl rfl (by kernel_rfl) (by kernel_rfl) (by kernel_rfl) (fun _ _ _ h => h) (Or.inl ⟨by rfl, ?_⟩) (by assumption) ?_
    · intro w' hSw'
      go_simp
    simp only [Act.put, List.setIfInBounds_toArray, List.set_cons_zero, List.set_cons_succ]
    refine takeH (i := 6) 26 (v := .slice (some ⟨b, off + T, none⟩) (K - T) (xkc - T)) rfl rfl (by kernel_rfl) (by kernel_rfl) (by kernel_rfl) (fun _ _ _ h => h) (Or.inl ⟨by rfl, ?_⟩) (by assumption) ?_
    · intro w' hSw'
      go_simp
    simp only [Act.put, List.setIfInBounds_toArray, List.set_cons_zero, List.set_cons_succ]
    refine takeH (i := 7) 27 (v := .string ⟨(xkey.drop T).toArray⟩) rfl rfl (by kernel_rfl) (by kernel_rfl) (by kernel_rfl) (fun _ _ _ h => h) (Or.inl ⟨by rfl, ?_⟩) (by assumption) ?_
    · intro w' hSw'
      have cv := KB.out w' hSw'
      go_simp
    simp only [Act.put, List.setIfInBounds_toArray, List.set_cons_zero, List.set_cons_succ]
    refine wpAnyH_ready (rs := [2]) (by kernel_rfl) (by simp) ?_
    refine AllReadyH.cons rfl (fun K hK => ?_) AllReadyH.nil
    go_simp
    refine (P1.out _ b2.out.drew).mono ?_
    rintro e w3 ⟨a3, k3, rfl, hs3, ho3, hb3⟩
    have b3 := keep hb3
    clear ho3
    have S3 := keep hs3
    clear hb3 hs3
    go_wp2_with fail
    refine hK.out _ _ (b3.out) (fun hHeld2 => ?_)
    clear hK K
    refine wpAnyH_ready (rs := [8]) (by kernel_rfl) (by simp) ?_
    refine AllReadyH.cons rfl (fun K hK => ?_) AllReadyH.nil
    go_simp
    refine (P2.out _ a3 k3 b3.out S3.out).mono ?_
    rintro e w4 ⟨a4, k4, rfl, hs4, ho4, hb4⟩
    have b4 := keep hb4
    clear ho4
    have S4 := keep hs4
    clear hb4 hs4
    go_wp2_with fail
    refine hK.out _ _ (b4.out) (fun hHeld3 => ?_)
    clear hK K
    refine takeH (i := 9) 0 (v := .slice a4 n2 k4) rfl rfl (by kernel_rfl) (by kernel_rfl) (by kernel_rfl) (fun _ _ _ h => h) (Or.inl ⟨by rfl, ?_⟩) (by assumption) ?_
    · intro w' hSw'
      go_simp
    simp only [Act.put, List.setIfInBounds_toArray, List.set_cons_zero]
    refine wpAnyH_done (by kernel_rfl) ?_ _
    go_wp2_with fail
    refine wp_region_held_drew (S := fun w' => Below W1.heap.size W1 w') (by kernel_rfl) (b4.out.drew) (fun hHeld4 => ?_)
    refine takeH (i := 0) 29 (v := .slice a4 n2 k4) rfl rfl (by kernel_rfl) (by kernel_rfl) (by kernel_rfl) (fun _ _ _ h => h) (Or.inl ⟨by rfl, ?_⟩) (by assumption) ?_
    · intro w' hSw'
      go_simp
    simp only [Act.put, List.setIfInBounds_toArray, List.set_cons_zero, List.set_cons_succ]
    refine takeH (i := 1) 30 (v := .int .i64 (2 * (q : Int) + 1)) rfl rfl (by kernel_rfl) (by kernel_rfl) (by kernel_rfl) (fun _ _ _ h => h) (Or.inl ⟨by rfl, ?_⟩) (by assumption) ?_
    · intro w' hSw'
      go_simp
    simp only [Act.put, List.setIfInBounds_toArray, List.set_cons_zero, List.set_cons_succ]
    refine takeH (i := 3) 32 (v := .pointer (some ⟨w.heap.size, 3, none⟩)) rfl rfl (by kernel_rfl) (by kernel_rfl) (by kernel_rfl) (fun _ _ _ h => h) (Or.inl ⟨by rfl, ?_⟩) (by assumption) ?_
    · intro w' hSw'
      go_simp
    simp only [Act.put, List.setIfInBounds_toArray, List.set_cons_zero, List.set_cons_succ]
    refine takeH (i := 4) 33 (v := .slice xvp V xvc) rfl rfl (by kernel_rfl) (by kernel_rfl) (by kernel_rfl) (fun _ _ _ h => h) (Or.inl ⟨by rfl, ?_⟩) (by assumption) ?_
    · intro w' hSw'
      obtain ⟨d0, d1, d2, d3⟩ := CF.out w' hSw'
      go_simp
    simp only [Act.put, List.setIfInBounds_toArray, List.set_cons_zero, List.set_cons_succ]
    refine takeH (i := 5) 34 (v := .string ⟨xval.toArray⟩) rfl rfl (by kernel_rfl) (by kernel_rfl) (by kernel_rfl) (fun _ _ _ h => h) (Or.inl ⟨by rfl, ?_⟩) (by assumption) ?_
    · intro w' hSw'
      have cv := KV.out w' hSw'
      go_simp
    simp only [Act.put, List.setIfInBounds_toArray, List.set_cons_zero, List.set_cons_succ]
    refine wpAnyH_ready (rs := [2]) (by kernel_rfl) (by simp) ?_
    refine AllReadyH.cons rfl (fun K hK => ?_) AllReadyH.nil
    go_simp
    refine (P3.out _ a4 k4 b4.out.drew (S4.out.below (Below.refl _ _).drew)).mono ?_
    rintro e w5 ⟨a5, k5, rfl, hs5, ho5, hb5⟩
    have b5 := keep hb5
    clear ho5
    have S5 := keep hs5
    clear hb5 hs5
    go_wp2_with fail
    refine hK.out _ _ (b5.out) (fun hHeld5 => ?_)
    clear hK K
    refine wpAnyH_ready (rs := [6]) (by kernel_rfl) (by simp) ?_
    refine AllReadyH.cons rfl (fun K hK => ?_) AllReadyH.nil
    go_simp
    refine (P4.out _ a5 k5 b5.out S5.out).mono ?_
    rintro e w6 ⟨a6, k6, rfl, hs6, ho6, hb6⟩
    have b6 := keep hb6
    have O6 := keep ho6
    clear ho6
    have S6 := keep hs6
    clear hb6 hs6
    go_wp2_with fail
    refine hK.out _ _ (b6.out) (fun hHeld6 => ?_)
    clear hK K
    refine takeH (i := 7) 6 (v := .slice a6 L4.length k6) rfl rfl (by kernel_rfl) (by kernel_rfl) (by kernel_rfl) (fun _ _ _ h => h) (Or.inl ⟨by rfl, ?_⟩) (by assumption) ?_
    · intro w' hSw'
      go_simp
    simp only [Act.put, List.setIfInBounds_toArray, List.set_cons_zero, List.set_cons_succ]
    refine wpAnyH_done (by kernel_rfl) ?_ _
    go_wp2
    go_ret
    exact ⟨_, _, rfl, S6.out, own_base O6.out (fun g hg => Nat.le_trans b1.out.size (O6.out.lt g hg).1), b1.out.trans (b6.out.mono b1.out.size)⟩
set_option maxHeartbeats 2000000 in
set_option maxRecDepth 100000 in
theorem putEntry_end (bo : Option Addr) (m bc : Nat) (l : List UInt8) (b off K xkc : Nat) (xkey : List UInt8) (q : Nat) (xgone : Bool) (xvp : Option Addr) (V xvc : Nat) (xval : List UInt8) (ap : Option Addr) (A ac : Nat) (ahead : List UInt8) (T mk : Nat) (w : World) (hm : m ≤ 1000000) (hK : 1 ≤ K ∧ K ≤ 64) (hq : q ≤ 1099511627776) (hV : V ≤ 1024) (hA : A ≤ 1000000) (hT : Bq.share xkey ahead = T) (hmk : mk = 2 * q + (if xgone then 1 else 0))
    (hs : Src w bo m bc l) (hx : Src w (some ⟨b, off, none⟩) K xkc xkey) (hv : Src w xvp V xvc xval) (ha : Src w ap A ac ahead) (hc : ¬ T < xkc) :
    Calls Tryz.prog 57 #[.slice bo m bc, .agg #[.slice (some ⟨b, off, none⟩) K xkc, .int .i64 (q : Int), .bool xgone, .slice xvp V xvc], .slice ap A ac] w (Laid8 w (((l ++ num T) ++ (num (xkey.drop T).length ++ xkey.drop T) ++ num mk) ++ (num xval.length ++ xval))) := by
  have hTK : T ≤ K := by rw [← hT, ← hx.len]; exact Bq.share_left _ _
  have hkc := hx.cap
  have hlD : (xkey.drop T).length = K - T := by rw [List.length_drop, hx.len]
  have hlV := hv.len
  obtain ⟨W1, hW1⟩ : ∃ W1, w.alloc (.cells #[.slice (some ⟨b, off, none⟩) K xkc, .int .i64 (q : Int), .bool xgone, .slice xvp V xvc] 37) = W1 := ⟨_, rfl⟩
  have b1 : Hid (Below w.heap.size w W1) := by rw [← hW1]; exact (Below.refl _ _).alloc (Nat.le_refl _) _
  have g1 : Hid (W1.heap[w.heap.size]? = some (.cells #[.slice (some ⟨b, off, none⟩) K xkc, .int .i64 (q : Int), .bool xgone, .slice xvp V xvc] 37)) := by rw [← hW1]; exact heap_alloc_new w _
  have CF : Hid (∀ w', Below W1.heap.size W1 w' → w'.cell? ⟨w.heap.size, 0, none⟩ = some (.slice (some ⟨b, off, none⟩) K xkc) ∧ w'.cell? ⟨w.heap.size, 1, none⟩ = some (.int .i64 (q : Int)) ∧ w'.cell? ⟨w.heap.size, 2, none⟩ = some (.bool xgone) ∧ w'.cell? ⟨w.heap.size, 3, none⟩ = some (.slice xvp V xvc)) := fun w' hb => ⟨below_cell hb (cell_of_row _ _ _ _ _ _ g1.out), below_cell hb (cell_of_row _ _ _ _ _ _ g1.out), below_cell hb (cell_of_row _ _ _ _ _ _ g1.out), below_cell hb (cell_of_row _ _ _ _ _ _ g1.out)⟩
  have SH : Hid (Calls Tryz.prog 80 #[.slice (some ⟨b, off, none⟩) K xkc, .slice ap A ac] W1 fun e w' => e = .returned (.int .i64 (T : Int)) ∧ Below W1.heap.size W1 w') := by
    have := shared_any (some ⟨b, off, none⟩) K xkc xkey ap A ac ahead W1 (by omega) (by omega) (hx.below b1.out) (ha.below b1.out)
    rwa [hT] at this
  have P1 : Hid (∀ w', Below W1.heap.size W1 w' → Calls Tryz.prog 25 #[.slice bo m bc, .int .i64 (T : Int)] w' (Laid8 W1 (l ++ num T))) := fun w' hb => putNum_laid hb (by omega) (by omega) ((hs.below b1.out).below hb)
  have KB : Hid (∀ w', Below W1.heap.size W1 w' → (convert 24 9 (.slice (some ⟨b, off, none⟩) 0 0)).run Tryz.prog w' = .ok (.string ⟨(xkey.drop T).toArray⟩) w') := fun w' hb' => by
    have hb := b1.out.trans (hb'.mono b1.out.size)
    exact conv_src ((hx.below hb).tail0 T (by omega))
  have KV : Hid (∀ w', Below W1.heap.size W1 w' → (convert 24 9 (.slice xvp V xvc)).run Tryz.prog w' = .ok (.string ⟨xval.toArray⟩) w') := fun w' hb' => by
    have hb := b1.out.trans (hb'.mono b1.out.size)
    exact conv_src (hv.below hb)
  have nT := Bq.num_len (n := T) (by omega)
  have nD := Bq.num_len (n := (xkey.drop T).length) (by omega)
  have nM := Bq.num_len (n := mk) (by rw [hmk]; split <;> omega)
  have hmkl : mk ≤ 4611686018427387903 := by rw [hmk]; split <;> omega
  have hl := hs.len
  obtain ⟨c0, c1, c2, c3⟩ := CF.out W1 (Below.refl _ _)
  obtain ⟨L1, hL1⟩ : ∃ L1, l ++ num T = L1 := ⟨_, rfl⟩
  have l1 : L1.length ≤ m + 9 := by rw [← hL1, List.length_append]; omega
  obtain ⟨L2, hL2⟩ : ∃ L2, L1 ++ (num (xkey.drop T).length ++ xkey.drop T) = L2 := ⟨_, rfl⟩
  have l2 : L2.length ≤ m + 82 := by rw [← hL2, List.length_append, List.length_append]; omega
  obtain ⟨L3, hL3⟩ : ∃ L3, L2 ++ num mk = L3 := ⟨_, rfl⟩
  have l3 : L3.length ≤ m + 91 := by rw [← hL3, List.length_append]; omega
  obtain ⟨L4, hL4⟩ : ∃ L4, L3 ++ (num xval.length ++ xval) = L4 := ⟨_, rfl⟩
  rw [hL1, hL2, hL3, hL4]
  rw [hL1] at P1
  have P2 : Hid (∀ w' a c, Below W1.heap.size W1 w' → Src w' a L1.length c L1 → Calls Tryz.prog 27 #[.slice a L1.length c, .string ⟨(xkey.drop T).toArray⟩] w' (Laid8 W1 L2)) := fun w' a c hb h => by
    rw [← hL2]; exact putText_laid hb (by omega) h
  have P3 : Hid (∀ w' a c, Below W1.heap.size W1 w' → Src w' a L2.length c L2 → Calls Tryz.prog 25 #[.slice a L2.length c, .int .i64 (mk : Int)] w' (Laid8 W1 L3)) := fun w' a c hb h => by
    rw [← hL3]; exact putNum_laid hb (by omega) hmkl h
  have P4 : Hid (∀ w' a c, Below W1.heap.size W1 w' → Src w' a L3.length c L3 → Calls Tryz.prog 27 #[.slice a L3.length c, .string ⟨xval.toArray⟩] w' (Laid8 W1 L4)) := fun w' a c hb h => by
    rw [← hL4]; exact putText_laid hb (by omega) h
  clear hL1 hL2 hL3 hL4 hs hx hv ha hT nT nD nM hlD hl hlV
  obtain ⟨n1, hn1⟩ : ∃ n, L1.length = n := ⟨_, rfl⟩
  obtain ⟨n2, hn2⟩ : ∃ n, L2.length = n := ⟨_, rfl⟩
  obtain ⟨n3, hn3⟩ : ∃ n, L3.length = n := ⟨_, rfl⟩
  unfold Laid8 at P1 P2 P3 P4
  rw [hn1] at P1 P2 l1
  rw [hn2] at P2 P3 l2
  rw [hn3] at P3 P4 l3
  clear hn1 hn2 hn3
  have hq2 : IntKind.i64.wrap (2 * (q : Int)) = 2 * (q : Int) := wrap_small _ (by omega) (by omega)
  have hq3 : IntKind.i64.wrap (2 * (q : Int) + 1) = 2 * (q : Int) + 1 := wrap_small _ (by omega) (by omega)
  obtain rfl : xkc = T := by omega
  obtain rfl : K = xkc := by omega
  have i2 : (0 : Int) ≤ (K : Int) := by omega
  have i3 : (K : Int) ≤ (K : Int) := by omega
  go_enter Tryz.func57, Tryz.ntmps57
  go_wp2_with fail
  refine SH.out.mono ?_
  rintro e w2 ⟨rfl, hb2⟩
  have b2 := keep hb2
  obtain ⟨d0, d1, d2, d3⟩ := CF.out w2 hb2
  clear hb2 SH hW1
  cases xgone
  · have em : (mk : Int) = 2 * (q : Int) := by rw [hmk]; simp
    rw [em] at P3
    go_wp2_with fail
    refine wp_region_held_drew (S := fun w' => Below W1.heap.size W1 w') (by kernel_rfl) (b2.out.drew) (fun hHeld => ?_)
    refine takeH (i := 0) 20 (v := .slice bo m bc) rfl rfl (by kernel_rfl) (by kernel_rfl) (by kernel_rfl) (fun _ _ _ h => h) (Or.inl ⟨by rfl, ?_⟩) (by assumption) ?_
    · intro w' hSw'
      go_simp
    simp only [Act.put, List.setIfInBounds_toArray, List.set_cons_zero, List.set_cons_succ]
    refine takeH (i := 1) 21 (v := .int .i64 (K : Int)) rfl rfl (by kernel_rfl) (by kernel_rfl) (by kernel_rfl) (fun _ _ _ h => h) (Or.inl ⟨by rfl, ?_⟩) (by assumption) ?_
    · intro w' hSw'
      go_simp
    simp only [Act.put, List.setIfInBounds_toArray, List.set_cons_zero, List.set_cons_succ]
    refine takeH (i := 3) 23 (v := .pointer (some ⟨w.heap.size, 0, none⟩)) rfl rfl (by kernel_rfl) (by kernel_rfl) (by kernel_rfl) (fun _ _ _ h => h) (Or.inl ⟨by rfl, ?_⟩) (by assumption) ?_
    · intro w' hSw'
      go_simp
    simp only [Act.put, List.setIfInBounds_toArray, List.set_cons_zero, List.set_cons_succ]
    refine takeH (i := 4) 24 (v := .slice (some ⟨b, off, none⟩) K K) rfl rfl (by kernel_rfl) (by kernel_rfl) (by kernel_rfl) (fun _ _ _ h => h) (Or.inl ⟨by rfl, ?_⟩) (by assumption) ?_
    · intro w' hSw'
      obtain ⟨d0, d1, d2, d3⟩ := CF.out w' hSw'
      go_simp
    simp only [Act.put, List.setIfInBounds_toArray, List.set_cons_zero, List.set_cons_succ]
    refine takeH (i := 5) 25 (v := .int .i64 (K : Int)) rfl rfl (by kernel_rfl) (by kernel_rfl) (by kernel_rfl) (fun _ _ _ h => h) (Or.inl ⟨by rfl, ?_⟩) (by assumption) ?_
    · intro w' hSw'
      go_simp
    simp only [Act.put, List.setIfInBounds_toArray, List.set_cons_zero, List.set_cons_succ]
    refine takeH (i := 6) 26 (v := .slice (some ⟨b, off, none⟩) 0 0) rfl rfl (by kernel_rfl) (by kernel_rfl) (by kernel_rfl) (fun _ _ _ h => h) (Or.inl ⟨by rfl, ?_⟩) (by assumption) ?_
    · intro w' hSw'
      go_simp
    simp only [Act.put, List.setIfInBounds_toArray, List.set_cons_zero, List.set_cons_succ]
    refine takeH (i := 7) 27 (v := .string ⟨(xkey.drop K).toArray⟩) rfl rfl (by kernel_rfl) (by kernel_rfl) (by kernel_rfl) (fun _ _ _ h => h) (Or.inl ⟨by rfl, ?_⟩) (by assumption) ?_
    · intro w' hSw'
      have cv := KB.out w' hSw'
      go_simp
    simp only [Act.put, List.setIfInBounds_toArray, List.set_cons_zero, List.set_cons_succ]
    refine wpAnyH_ready (rs := [2]) (by kernel_rfl) (by simp) ?_
    refine AllReadyH.cons rfl (fun K hK => ?_) AllReadyH.nil
    go_simp
    refine (P1.out _ b2.out.drew).mono ?_
    rintro e w3 ⟨a3, k3, rfl, hs3, ho3, hb3⟩
    have b3 := keep hb3
    clear ho3
    have S3 := keep hs3
    clear hb3 hs3
    go_wp2_with fail
    refine hK.out _ _ (b3.out) (fun hHeld2 => ?_)
    clear hK K
    refine wpAnyH_ready (rs := [8]) (by kernel_rfl) (by simp) ?_
    refine AllReadyH.cons rfl (fun K hK => ?_) AllReadyH.nil
    go_simp
    refine (P2.out _ a3 k3 b3.out S3.out).mono ?_
    rintro e w4 ⟨a4, k4, rfl, hs4, ho4, hb4⟩
    have b4 := keep hb4
    clear ho4
    have S4 := keep hs4
    clear hb4 hs4
    go_wp2_with fail
    refine hK.out _ _ (b4.out) (fun hHeld3 => ?_)
    clear hK K
    refine takeH (i := 9) 0 (v := .slice a4 n2 k4) rfl rfl (by kernel_rfl) (by kernel_rfl) (by kernel_rfl) (fun _ _ _ h => h) (Or.inl ⟨by rfl, ?_⟩) (by assumption) ?_
    · intro w' hSw'
      go_simp
    simp only [Act.put, List.setIfInBounds_toArray, List.set_cons_zero]
    refine wpAnyH_done (by kernel_rfl) ?_ _
    go_wp2_with fail
    refine wp_region_held_drew (S := fun w' => Below W1.heap.size W1 w') (by kernel_rfl) (b4.out.drew) (fun hHeld4 => ?_)
    refine takeH (i := 0) 29 (v := .slice a4 n2 k4) rfl rfl (by kernel_rfl) (by kernel_rfl) (by kernel_rfl) (fun _ _ _ h => h) (Or.inl ⟨by rfl, ?_⟩) (by assumption) ?_
    · intro w' hSw'
      go_simp
    simp only [Act.put, List.setIfInBounds_toArray, List.set_cons_zero, List.set_cons_succ]
    refine takeH (i := 1) 30 (v := .int .i64 (2 * (q : Int))) rfl rfl (by kernel_rfl) (by kernel_rfl) (by kernel_rfl) (fun _ _ _ h => h) (Or.inl ⟨by rfl, ?_⟩) (by assumption) ?_
    · intro w' hSw'
      go_simp
    simp only [Act.put, List.setIfInBounds_toArray, List.set_cons_zero, List.set_cons_succ]
    refine takeH (i := 3) 32 (v := .pointer (some ⟨w.heap.size, 3, none⟩)) rfl rfl (by kernel_rfl) (by kernel_rfl) (by kernel_rfl) (fun _ _ _ h => h) (Or.inl ⟨by rfl, ?_⟩) (by assumption) ?_
    · intro w' hSw'
      go_simp
    simp only [Act.put, List.setIfInBounds_toArray, List.set_cons_zero, List.set_cons_succ]
    refine takeH (i := 4) 33 (v := .slice xvp V xvc) rfl rfl (by kernel_rfl) (by kernel_rfl) (by kernel_rfl) (fun _ _ _ h => h) (Or.inl ⟨by rfl, ?_⟩) (by assumption) ?_
    · intro w' hSw'
      obtain ⟨d0, d1, d2, d3⟩ := CF.out w' hSw'
      go_simp
    simp only [Act.put, List.setIfInBounds_toArray, List.set_cons_zero, List.set_cons_succ]
    refine takeH (i := 5) 34 (v := .string ⟨xval.toArray⟩) rfl rfl (by kernel_rfl) (by kernel_rfl) (by kernel_rfl) (fun _ _ _ h => h) (Or.inl ⟨by rfl, ?_⟩) (by assumption) ?_
    · intro w' hSw'
      have cv := KV.out w' hSw'
      go_simp
    simp only [Act.put, List.setIfInBounds_toArray, List.set_cons_zero, List.set_cons_succ]
    refine wpAnyH_ready (rs := [2]) (by kernel_rfl) (by simp) ?_
    refine AllReadyH.cons rfl (fun K hK => ?_) AllReadyH.nil
    go_simp
    refine (P3.out _ a4 k4 b4.out.drew (S4.out.below (Below.refl _ _).drew)).mono ?_
    rintro e w5 ⟨a5, k5, rfl, hs5, ho5, hb5⟩
    have b5 := keep hb5
    clear ho5
    have S5 := keep hs5
    clear hb5 hs5
    go_wp2_with fail
    refine hK.out _ _ (b5.out) (fun hHeld5 => ?_)
    clear hK K
    refine wpAnyH_ready (rs := [6]) (by kernel_rfl) (by simp) ?_
    refine AllReadyH.cons rfl (fun K hK => ?_) AllReadyH.nil
    go_simp
    refine (P4.out _ a5 k5 b5.out S5.out).mono ?_
    rintro e w6 ⟨a6, k6, rfl, hs6, ho6, hb6⟩
    have b6 := keep hb6
    have O6 := keep ho6
    clear ho6
    have S6 := keep hs6
    clear hb6 hs6
    go_wp2_with fail
    refine hK.out _ _ (b6.out) (fun hHeld6 => ?_)
    clear hK K
    refine takeH (i := 7) 6 (v := .slice a6 L4.length k6) rfl rfl (by kernel_rfl) (by kernel_rfl) (by kernel_rfl) (fun _ _ _ h => h) (Or.inl ⟨by rfl, ?_⟩) (by assumption) ?_
    · intro w' hSw'
      go_simp
    simp only [Act.put, List.setIfInBounds_toArray, List.set_cons_zero, List.set_cons_succ]
    refine wpAnyH_done (by kernel_rfl) ?_ _
    go_wp2
    go_ret
    exact ⟨_, _, rfl, S6.out, own_base O6.out (fun g hg => Nat.le_trans b1.out.size (O6.out.lt g hg).1), b1.out.trans (b6.out.mono b1.out.size)⟩
  · have em : (mk : Int) = 2 * (q : Int) + 1 := by rw [hmk]; simp
    rw [em] at P3
    go_wp2_with fail
    refine wp_region_held_drew (S := fun w' => Below W1.heap.size W1 w') (by kernel_rfl) (b2.out.drew) (fun hHeld => ?_)
    refine takeH (i := 0) 20 (v := .slice bo m bc) rfl rfl (by kernel_rfl) (by kernel_rfl) (by kernel_rfl) (fun _ _ _ h => h) (Or.inl ⟨by rfl, ?_⟩) (by assumption) ?_
    · intro w' hSw'
      go_simp
    simp only [Act.put, List.setIfInBounds_toArray, List.set_cons_zero, List.set_cons_succ]
    refine takeH (i := 1) 21 (v := .int .i64 (K : Int)) rfl rfl (by kernel_rfl) (by kernel_rfl) (by kernel_rfl) (fun _ _ _ h => h) (Or.inl ⟨by rfl, ?_⟩) (by assumption) ?_
    · intro w' hSw'
      go_simp
    simp only [Act.put, List.setIfInBounds_toArray, List.set_cons_zero, List.set_cons_succ]
    refine takeH (i := 3) 23 (v := .pointer (some ⟨w.heap.size, 0, none⟩)) rfl rfl (by kernel_rfl) (by kernel_rfl) (by kernel_rfl) (fun _ _ _ h => h) (Or.inl ⟨by rfl, ?_⟩) (by assumption) ?_
    · intro w' hSw'
      go_simp
    simp only [Act.put, List.setIfInBounds_toArray, List.set_cons_zero, List.set_cons_succ]
    refine takeH (i := 4) 24 (v := .slice (some ⟨b, off, none⟩) K K) rfl rfl (by kernel_rfl) (by kernel_rfl) (by kernel_rfl) (fun _ _ _ h => h) (Or.inl ⟨by rfl, ?_⟩) (by assumption) ?_
    · intro w' hSw'
      obtain ⟨d0, d1, d2, d3⟩ := CF.out w' hSw'
      go_simp
    simp only [Act.put, List.setIfInBounds_toArray, List.set_cons_zero, List.set_cons_succ]
    refine takeH (i := 5) 25 (v := .int .i64 (K : Int)) rfl rfl (by kernel_rfl) (by kernel_rfl) (by kernel_rfl) (fun _ _ _ h => h) (Or.inl ⟨by rfl, ?_⟩) (by assumption) ?_
    · intro w' hSw'
      go_simp
    simp only [Act.put, List.setIfInBounds_toArray, List.set_cons_zero, List.set_cons_succ]
    refine takeH (i := 6) 26 (v := .slice (some ⟨b, off, none⟩) 0 0) rfl rfl (by kernel_rfl) (by kernel_rfl) (by kernel_rfl) (fun _ _ _ h => h) (Or.inl ⟨by rfl, ?_⟩) (by assumption) ?_
    · intro w' hSw'
      go_simp
    simp only [Act.put, List.setIfInBounds_toArray, List.set_cons_zero, List.set_cons_succ]
    refine takeH (i := 7) 27 (v := .string ⟨(xkey.drop K).toArray⟩) rfl rfl (by kernel_rfl) (by kernel_rfl) (by kernel_rfl) (fun _ _ _ h => h) (Or.inl ⟨by rfl, ?_⟩) (by assumption) ?_
    · intro w' hSw'
      have cv := KB.out w' hSw'
      go_simp
    simp only [Act.put, List.setIfInBounds_toArray, List.set_cons_zero, List.set_cons_succ]
    refine wpAnyH_ready (rs := [2]) (by kernel_rfl) (by simp) ?_
    refine AllReadyH.cons rfl (fun K hK => ?_) AllReadyH.nil
    go_simp
    refine (P1.out _ b2.out.drew).mono ?_
    rintro e w3 ⟨a3, k3, rfl, hs3, ho3, hb3⟩
    have b3 := keep hb3
    clear ho3
    have S3 := keep hs3
    clear hb3 hs3
    go_wp2_with fail
    refine hK.out _ _ (b3.out) (fun hHeld2 => ?_)
    clear hK K
    refine wpAnyH_ready (rs := [8]) (by kernel_rfl) (by simp) ?_
    refine AllReadyH.cons rfl (fun K hK => ?_) AllReadyH.nil
    go_simp
    refine (P2.out _ a3 k3 b3.out S3.out).mono ?_
    rintro e w4 ⟨a4, k4, rfl, hs4, ho4, hb4⟩
    have b4 := keep hb4
    clear ho4
    have S4 := keep hs4
    clear hb4 hs4
    go_wp2_with fail
    refine hK.out _ _ (b4.out) (fun hHeld3 => ?_)
    clear hK K
    refine takeH (i := 9) 0 (v := .slice a4 n2 k4) rfl rfl (by kernel_rfl) (by kernel_rfl) (by kernel_rfl) (fun _ _ _ h => h) (Or.inl ⟨by rfl, ?_⟩) (by assumption) ?_
    · intro w' hSw'
      go_simp
    simp only [Act.put, List.setIfInBounds_toArray, List.set_cons_zero]
    refine wpAnyH_done (by kernel_rfl) ?_ _
    go_wp2_with fail
    refine wp_region_held_drew (S := fun w' => Below W1.heap.size W1 w') (by kernel_rfl) (b4.out.drew) (fun hHeld4 => ?_)
    refine takeH (i := 0) 29 (v := .slice a4 n2 k4) rfl rfl (by kernel_rfl) (by kernel_rfl) (by kernel_rfl) (fun _ _ _ h => h) (Or.inl ⟨by rfl, ?_⟩) (by assumption) ?_
    · intro w' hSw'
      go_simp
    simp only [Act.put, List.setIfInBounds_toArray, List.set_cons_zero, List.set_cons_succ]
    refine takeH (i := 1) 30 (v := .int .i64 (2 * (q : Int) + 1)) rfl rfl (by kernel_rfl) (by kernel_rfl) (by kernel_rfl) (fun _ _ _ h => h) (Or.inl ⟨by rfl, ?_⟩) (by assumption) ?_
    · intro w' hSw'
      go_simp
    simp only [Act.put, List.setIfInBounds_toArray, List.set_cons_zero, List.set_cons_succ]
    refine takeH (i := 3) 32 (v := .pointer (some ⟨w.heap.size, 3, none⟩)) rfl rfl (by kernel_rfl) (by kernel_rfl) (by kernel_rfl) (fun _ _ _ h => h) (Or.inl ⟨by rfl, ?_⟩) (by assumption) ?_
    · intro w' hSw'
      go_simp
    simp only [Act.put, List.setIfInBounds_toArray, List.set_cons_zero, List.set_cons_succ]
    refine takeH (i := 4) 33 (v := .slice xvp V xvc) rfl rfl (by kernel_rfl) (by kernel_rfl) (by kernel_rfl) (fun _ _ _ h => h) (Or.inl ⟨by rfl, ?_⟩) (by assumption) ?_
    · intro w' hSw'
      obtain ⟨d0, d1, d2, d3⟩ := CF.out w' hSw'
      go_simp
    simp only [Act.put, List.setIfInBounds_toArray, List.set_cons_zero, List.set_cons_succ]
    refine takeH (i := 5) 34 (v := .string ⟨xval.toArray⟩) rfl rfl (by kernel_rfl) (by kernel_rfl) (by kernel_rfl) (fun _ _ _ h => h) (Or.inl ⟨by rfl, ?_⟩) (by assumption) ?_
    · intro w' hSw'
      have cv := KV.out w' hSw'
      go_simp
    simp only [Act.put, List.setIfInBounds_toArray, List.set_cons_zero, List.set_cons_succ]
    refine wpAnyH_ready (rs := [2]) (by kernel_rfl) (by simp) ?_
    refine AllReadyH.cons rfl (fun K hK => ?_) AllReadyH.nil
    go_simp
    refine (P3.out _ a4 k4 b4.out.drew (S4.out.below (Below.refl _ _).drew)).mono ?_
    rintro e w5 ⟨a5, k5, rfl, hs5, ho5, hb5⟩
    have b5 := keep hb5
    clear ho5
    have S5 := keep hs5
    clear hb5 hs5
    go_wp2_with fail
    refine hK.out _ _ (b5.out) (fun hHeld5 => ?_)
    clear hK K
    refine wpAnyH_ready (rs := [6]) (by kernel_rfl) (by simp) ?_
    refine AllReadyH.cons rfl (fun K hK => ?_) AllReadyH.nil
    go_simp
    refine (P4.out _ a5 k5 b5.out S5.out).mono ?_
    rintro e w6 ⟨a6, k6, rfl, hs6, ho6, hb6⟩
    have b6 := keep hb6
    have O6 := keep ho6
    clear ho6
    have S6 := keep hs6
    clear hb6 hs6
    go_wp2_with fail
    refine hK.out _ _ (b6.out) (fun hHeld6 => ?_)
    clear hK K
    refine takeH (i := 7) 6 (v := .slice a6 L4.length k6) rfl rfl (by kernel_rfl) (by kernel_rfl) (by kernel_rfl) (fun _ _ _ h => h) (Or.inl ⟨by rfl, ?_⟩) (by assumption) ?_
    · intro w' hSw'
      go_simp
    simp only [Act.put, List.setIfInBounds_toArray, List.set_cons_zero, List.set_cons_succ]
    refine wpAnyH_done (by kernel_rfl) ?_ _
    go_wp2
    go_ret
    exact ⟨_, _, rfl, S6.out, own_base O6.out (fun g hg => Nat.le_trans b1.out.size (O6.out.lt g hg).1), b1.out.trans (b6.out.mono b1.out.size)⟩
theorem putEntry_any (bo : Option Addr) (m bc : Nat) (l : List UInt8) (x : EV) (ap : Option Addr) (A ac : Nat) (ahead : List UInt8) (w : World) (hm : m ≤ 1000000) (hA : A ≤ 1000000) (hmay : Sk.may x.e = true) (hs : Src w bo m bc l) (hx : entKind.held w x) (ha : Src w ap A ac ahead) :
    Calls Tryz.prog 57 #[.slice bo m bc, ev x, .slice ap A ac] w (Laid8 w (l ++ Bq.entB ahead x.e)) := by
  obtain ⟨xkp, xkc, xvp, xvc, ⟨xkey, xseq, xgone, xval⟩⟩ := x
  have hb := Bq.may_bounds hmay
  simp only at hb
  obtain ⟨q, rfl⟩ : ∃ q : Nat, xseq = (q : Int) := ⟨xseq.toNat, by omega⟩
  have h1 : Src w xkp xkey.length xkc xkey := hx.1
  have h2 : Src w xvp xval.length xvc xval := hx.2
  obtain ⟨b, off, rfl, _, _⟩ := h1.form (by omega)
  have e1 : l ++ Bq.entB ahead ⟨xkey, (q : Int), xgone, xval⟩ = ((l ++ num (Bq.share xkey ahead)) ++ (num (xkey.drop (Bq.share xkey ahead)).length ++ xkey.drop (Bq.share xkey ahead)) ++ num (Bq.mark ⟨xkey, (q : Int), xgone, xval⟩)) ++ (num xval.length ++ xval) := by
    simp only [Bq.entB, List.append_assoc]
  rw [e1]
  unfold ev
  simp only
  by_cases hc : Bq.share xkey ahead < xkc
  · exact putEntry_gen bo m bc l b off xkey.length xkc xkey q xgone xvp xval.length xvc xval ap A ac ahead _ _ w hm ⟨by omega, by omega⟩ (by omega) (by omega) hA rfl (by simp [Bq.mark]) hs h1 h2 ha hc
  · exact putEntry_end bo m bc l b off xkey.length xkc xkey q xgone xvp xval.length xvc xval ap A ac ahead _ _ w hm ⟨by omega, by omega⟩ (by omega) (by omega) hA rfl (by simp [Bq.mark]) hs h1 h2 ha hc
end Go.Proofs.YtjblicgbdecbcaaGreat
