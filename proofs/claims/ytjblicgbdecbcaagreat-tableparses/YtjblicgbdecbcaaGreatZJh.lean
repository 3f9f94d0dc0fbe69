/- The walk of the document's Build for blocks. -/
import Derived.Test.YtjblicgbdecbcaaGreatZJ6j
import Derived.Test.YtjblicgbdecbcaaGreatZJgj
import Derived.Test.YtjblicgbdecbcaaGreatZTx
import Derived.Test.YtjblicgbdecbcaaGreatZJ1rj
import Derived.Test.YtjblicgbdecbcaaGreatZJ5rj
namespace Go.Proofs.YtjblicgbdecbcaaGreat
open Go.RowKit
open Sk (Ent)

theorem rputNum_laid {W : World} {ao : Option Addr} {m c : Nat} {l : List UInt8} {n : Nat} {w : World} (hb : Below W.heap.size W w) (hm : m + 9 ≤ 140737488355328) (hn : n ≤ 4611686018427387903) (hs : Src w ao m c l) :
    Calls Tryz.prog 31 #[.slice ao m c, .int .i64 (n : Int)] w (Laid8 W (l ++ num n)) := by
  refine (rputNum_any ao m c l (n : Int) w hm hs).mono ?_
  rintro e w' ⟨v, rfl, h⟩
  rw [cl_nat8 n hn] at h
  exact laid8_of hb h
theorem rputText_laid {W : World} {ao : Option Addr} {m c : Nat} {l s : List UInt8} {w : World} (hb : Below W.heap.size W w) (hm : m + s.length + 9 ≤ 140737488355328) (hs : Src w ao m c l) :
    Calls Tryz.prog 33 #[.slice ao m c, .string ⟨s.toArray⟩] w (Laid8 W (l ++ (num s.length ++ s))) := by
  refine (rputText_any ao m c l ⟨s.toArray⟩ s.length s w rfl rfl hm hs).mono ?_
  rintro e w' ⟨v, rfl, h⟩
  exact laid8_of hb h
set_option maxHeartbeats 4000000 in
set_option maxRecDepth 100000 in
theorem rbuild_any (ao : Option Addr) (n c : Nat) (es : List EV) (w : World) (hsrc : RSrc entKind w ao n c es) (hMAY : ∀ y ∈ es, y.e.key.length ≤ 9223372036854775807 ∧ y.e.val.length ≤ 9223372036854775807) :
    Calls Tryz.prog 32 #[.slice ao n c] w (Built w (es.map (·.e))) := by
  have CK := keep (rbcheck_any ao n c es w hsrc hMAY)
  have SRC := keep hsrc
  have HN := keep hsrc.len
  obtain ⟨L, hL⟩ : ∃ L, es.map (·.e) = L := ⟨_, rfl⟩
  rw [hL] at CK ⊢
  have hlen : L.length = n := by rw [← hL, List.length_map]; exact hsrc.len
  have HL := keep hL
  clear hsrc hMAY hL
  cases hok : Bq.okB L with
  | false =>
    have hc : bchk L = 1 := by unfold bchk; rw [hok]; rfl
    rw [hc] at CK
    have OK := keep hok
    clear hok hc hlen
    go_enter Tryz.func32, Tryz.ntmps32
    go_wp2_with fail
    refine CK.out.mono ?_
    rintro e w1 ⟨rfl, hb1⟩
    have b1 := keep hb1
    clear hb1
    go_wp2
    go_ret2
    exact built_no OK.out b1.out
  | true =>
    have hc : bchk L = 0 := by unfold bchk; rw [hok]; rfl
    rw [hc] at CK
    have OK := keep hok
    have h8 := Bq.okB_len hok
    rw [hlen] at h8
    have n1 : 1 ≤ n := h8.1
    have n8 : n ≤ 8 := h8.2
    have HLN := keep hlen
    clear hok hc hlen h8
    go_enter Tryz.func32, Tryz.ntmps32
    go_wp2_with fail
    refine CK.out.mono ?_
    rintro e w1 ⟨rfl, hb1⟩
    have b1 := keep hb1
    clear hb1 CK
    have PN : Hid (Calls Tryz.prog 31 #[.slice none 0 0, .int .i64 (n : Int)] w1 (Laid8 w1 (num n))) := rputNum_laid (l := []) (Below.refl _ _) (by omega) (by omega) (src_nil w1)
    unfold Laid8 at PN
    go_wp2_with fail
    refine PN.out.mono ?_
    rintro e w2 ⟨a2, c2, rfl, hs2, ho2, hb2⟩
    have I2 : Hid (BuildI w L n 0 a2 c2 (num n) none 0 0 [] w2) := ⟨by simp [Bq.rowB], by simp [Bq.lastK], hs2, own_base ho2 (fun g hg => Nat.le_trans b1.out.size (ho2.lt g hg).1), src_nil w2, by omega, b1.out.trans (hb2.mono b1.out.size), by have := Bq.num_len (n := n) (by omega); omega⟩
    obtain ⟨N, hN⟩ : ∃ N, num n = N := ⟨_, rfl⟩
    rw [hN] at I2 ⊢
    clear hs2 ho2 hb2 PN hN b1
    go_wp2
    go_loopw [4, 5, 6] (fun vb va i wr => ∃ (k : Nat) (a : Option Addr) (c3 : Nat) (Bs : List UInt8) (ap : Option Addr) (A ac : Nat) (H : List UInt8), k ≤ n ∧ vb = .slice a Bs.length c3 ∧ va = .slice ap A ac ∧ i = .int .i64 (k : Int) ∧ Hid (BuildI w L n k a c3 Bs ap A ac H wr)) (fun _ _ i _ => n - (intOf i).toNat)
    case atStart => exact ⟨0, _, _, _, _, _, _, _, Nat.zero_le _, rfl, rfl, rfl, I2.out⟩
    case round =>
      obtain ⟨k, a, c3, Bs, ap, A, ac, H, hk, rfl, rfl, rfl, hI⟩ := hrel
      clear I2
      have HB := keep hI.out.below
      by_cases hkn : k < n
      · obtain ⟨b, off, rfl, _, _⟩ := SRC.out.form entKind_ok (by omega)
        obtain ⟨y, hy⟩ : ∃ y, es[k]? = some y := ⟨es[k]'(by rw [HN.out]; exact hkn), List.getElem?_eq_getElem _⟩
        obtain ⟨p0, p1, p2, p3⟩ := ent_cells (SRC.out.below entKind_ok HB.out) hy
        have hyh := (SRC.out.below entKind_ok HB.out).held y (List.mem_of_getElem? hy)
        have HY : Hid (L[k]? = some y.e) := by show _ = _; rw [← HL.out, List.getElem?_map, hy]; rfl
        have hmay := Bq.okB_may OK.out y.e (List.mem_of_getElem? HY.out)
        have hbd := Bq.may_bounds hmay
        obtain ⟨xkp, xkc, xvp, xvc, ⟨xkey, xseq, xgone, xval⟩⟩ := y
        simp only at p0 p1 p2 p3 HY hbd
        obtain ⟨q, rfl⟩ : ∃ q : Nat, xseq = (q : Int) := ⟨xseq.toNat, by omega⟩
        have HK : Hid (Src wr xkp xkey.length xkc xkey) := hyh.1
        have HV : Hid (Src wr xvp xval.length xvc xval) := hyh.2
        obtain ⟨bb, ff, rfl, _, _⟩ := HK.out.form (by omega)
        have HM := keep hmay
        clear hy hyh hmay
        have j0 : (0 : Int) ≤ (k : Int) := by omega
        have ll : (k : Int) < (n : Int) := by omega
        have CF : Hid (∀ w', Below wr.heap.size wr w' → w'.cell? ⟨b, off + k * 4, none⟩ = some (.slice (some ⟨bb, ff, none⟩) xkey.length xkc) ∧ w'.cell? ⟨b, off + k * 4 + 1, none⟩ = some (.int .i64 (q : Int)) ∧ w'.cell? ⟨b, off + k * 4 + 2, none⟩ = some (.bool xgone) ∧ w'.cell? ⟨b, off + k * 4 + 3, none⟩ = some (.slice xvp xval.length xvc)) := fun w' hb => ⟨below_cell hb p0, below_cell hb p1, below_cell hb p2, below_cell hb p3⟩
        have hl3 := hI.out.len
        have hsm := hI.out.small
        have hkcap := HK.out.cap
        obtain ⟨T, hT⟩ : ∃ T, Bq.share xkey H = T := ⟨_, rfl⟩
        have hTK : T ≤ xkey.length := by rw [← hT]; exact Bq.share_left _ _
        have SH : Hid (Calls Tryz.prog 65 #[.slice ap A ac, .slice (some ⟨bb, ff, none⟩) xkey.length xkc] wr fun e w' => e = .returned (.int .i64 (T : Int)) ∧ Below wr.heap.size wr w') := by
          have := rshared_any ap A ac H (some ⟨bb, ff, none⟩) xkey.length xkc xkey wr (by omega) (by omega) hI.out.key HK.out
          rwa [Bq.share_comm, hT] at this
        obtain ⟨mk, hmk⟩ : ∃ mk, Bq.mark ⟨xkey, (q : Int), xgone, xval⟩ = mk := ⟨_, rfl⟩
        have hmkl := Bq.mark_le HM.out
        rw [hmk] at hmkl
        have EB : Hid (Bq.entB H ⟨xkey, (q : Int), xgone, xval⟩ = num T ++ (num (xkey.drop T).length ++ (xkey.drop T ++ (num mk ++ (num xval.length ++ xval))))) := by
          show _ = _
          unfold Bq.entB
          simp only
          rw [hT, hmk]
        have hmk2 : mk = 2 * q + (if xgone then 1 else 0) := by rw [← hmk]; simp [Bq.mark]
        have hlD : (xkey.drop T).length = xkey.length - T := List.length_drop
        have nT := Bq.num_len (n := T) (by omega)
        have nD := Bq.num_len (n := (xkey.drop T).length) (by omega)
        have nM := Bq.num_len (n := mk) (by omega)
        have P1 : Hid (∀ w', Below wr.heap.size wr w' → Calls Tryz.prog 31 #[.slice a Bs.length c3, .int .i64 (T : Int)] w' (Laid8 wr (Bs ++ num T))) := fun w' hb => rputNum_laid hb (by omega) (by omega) (hI.out.src.below hb)
        obtain ⟨L1, hL1⟩ : ∃ L1, Bs ++ num T = L1 := ⟨_, rfl⟩
        have l1 : L1.length ≤ Bs.length + 9 := by rw [← hL1, List.length_append]; omega
        obtain ⟨L2, hL2⟩ : ∃ L2, L1 ++ (num (xkey.drop T).length ++ xkey.drop T) = L2 := ⟨_, rfl⟩
        have l2 : L2.length ≤ Bs.length + 82 := by rw [← hL2, List.length_append, List.length_append]; omega
        obtain ⟨L3, hL3⟩ : ∃ L3, L2 ++ num mk = L3 := ⟨_, rfl⟩
        have l3 : L3.length ≤ Bs.length + 91 := by rw [← hL3, List.length_append]; omega
        obtain ⟨L4, hL4⟩ : ∃ L4, L3 ++ (num xval.length ++ xval) = L4 := ⟨_, rfl⟩
        have HB4 : Hid (L4 = Bs ++ Bq.entB H ⟨xkey, (q : Int), xgone, xval⟩) := by
          show _ = _
          rw [EB.out, ← hL4, ← hL3, ← hL2, ← hL1]
          simp only [List.append_assoc]
        rw [hL1] at P1
        have P2 : Hid (∀ w' a c, Below wr.heap.size wr w' → Src w' a L1.length c L1 → Calls Tryz.prog 33 #[.slice a L1.length c, .string ⟨(xkey.drop T).toArray⟩] w' (Laid8 wr L2)) := fun w' a c hb h => by
          rw [← hL2]; exact rputText_laid hb (by omega) h
        have P3 : Hid (∀ w' a c, Below wr.heap.size wr w' → Src w' a L2.length c L2 → Calls Tryz.prog 31 #[.slice a L2.length c, .int .i64 (mk : Int)] w' (Laid8 wr L3)) := fun w' a c hb h => by
          rw [← hL3]; exact rputNum_laid hb (by omega) (by omega) h
        have P4 : Hid (∀ w' a c, Below wr.heap.size wr w' → Src w' a L3.length c L3 → Calls Tryz.prog 33 #[.slice a L3.length c, .string ⟨xval.toArray⟩] w' (Laid8 wr L4)) := fun w' a c hb h => by
          rw [← hL4]; exact rputText_laid hb (by omega) h
        have KV : Hid (∀ w', Below wr.heap.size wr w' → (convert 24 9 (.slice xvp xval.length xvc)).run Tryz.prog w' = .ok (.string ⟨xval.toArray⟩) w') := fun w' hb' => conv_src (HV.out.below hb')
        have NX : Hid (∀ w' a c, Below wr.heap.size wr w' → Src w' a L4.length c L4 → w'.ownsRow wr.heap.size 5 1 (.slice a L4.length c) L4.length (bv L4) → BuildI w L n (k + 1) a c L4 (some ⟨bb, ff, none⟩) xkey.length xkc xkey w') := fun w' a c hb h ho => hI.out.next HY.out HM.out HB4.out (Below.refl _ _) hb h ho (HK.out.below hb) hbd.2.1
        obtain ⟨K, hK⟩ : ∃ K, xkey.length = K := ⟨_, rfl⟩
        obtain ⟨V, hV⟩ : ∃ V, xval.length = V := ⟨_, rfl⟩
        have hK64 := hbd.2.1
        rw [hK] at CF SH hTK p0 hkcap NX hK64
        rw [hV] at CF p3 KV
        have HKK := keep hK
        have KS := HK.out
        rw [hK] at KS
        have HKS := keep KS
        clear hL1 hL2 hL3 hL4 hlD nT nD nM EB hmk hT hl3 hsm hbd KS hK hV
        obtain ⟨nb, hnb⟩ : ∃ nb, Bs.length = nb := ⟨_, rfl⟩
        obtain ⟨m1, hm1⟩ : ∃ m, L1.length = m := ⟨_, rfl⟩
        obtain ⟨m2, hm2⟩ : ∃ m, L2.length = m := ⟨_, rfl⟩
        obtain ⟨m3, hm3⟩ : ∃ m, L3.length = m := ⟨_, rfl⟩
        unfold Laid8 at P1 P2 P3 P4
        rw [hnb] at P1 ⊢
        rw [hm1] at P1 P2
        rw [hm2] at P2 P3
        rw [hm3] at P3 P4
        clear hnb hm1 hm2 hm3 l1 l2 l3
        have hq2 : IntKind.i64.wrap (2 * (q : Int)) = 2 * (q : Int) := wrap_small _ (by omega) (by omega)
        have hq3 : IntKind.i64.wrap (2 * (q : Int) + 1) = 2 * (q : Int) + 1 := wrap_small _ (by omega) (by omega)
        by_cases hTc : T < xkc
        · have KB : Hid (∀ w', Below wr.heap.size wr w' → (convert 24 9 (.slice (some ⟨bb, ff + T, none⟩) (K - T) (xkc - T))).run Tryz.prog w' = .ok (.string ⟨(xkey.drop T).toArray⟩) w') := fun w' hb' => conv_src ((HKS.out.below hb').tailS T (by omega))
          have i1 : ¬ xkc = T := by omega
          have i2 : (0 : Int) ≤ (T : Int) := by omega
          have i3 : (T : Int) ≤ (K : Int) := by omega
          go_wp2_with fail
          refine SH.out.mono ?_
          rintro e w2 ⟨rfl, hb2⟩
          have b2 := keep hb2
          obtain ⟨d0, d1, d2, d3⟩ := CF.out w2 hb2
          clear hb2 SH
          go_wp2_with fail
          refine wp_region_held_drew (S := fun w' => Below wr.heap.size wr w') (by kernel_rfl) (b2.out.drew) (fun hHeld => ?_)
          refine takeH (i := 0) 33 (v := .slice a nb c3) rfl rfl (by kernel_rfl) (by kernel_rfl) (by kernel_rfl) (fun _ _ _ h => h) (Or.inl ⟨by rfl, ?_⟩) (by assumption) ?_
          · intro w' hSw'
            go_simp
          simp only [Act.put, List.setIfInBounds_toArray, List.set_cons_zero, List.set_cons_succ]
          refine takeH (i := 1) 34 (v := .int .i64 (T : Int)) rfl rfl (by kernel_rfl) (by kernel_rfl) (by kernel_rfl) (fun _ _ _ h => h) (Or.inl ⟨by rfl, ?_⟩) (by assumption) ?_
          · intro w' hSw'
            go_simp
          simp only [Act.put, List.setIfInBounds_toArray, List.set_cons_zero, List.set_cons_succ]
          refine takeH (i := 3) 36 (v := .slice (some ⟨b, off, none⟩) n c) rfl rfl (by kernel_rfl) (by kernel_rfl) (by kernel_rfl) (fun _ _ _ h => h) (Or.inl ⟨by rfl, ?_⟩) (by assumption) ?_
          · intro w' hSw'
            go_simp
          simp only [Act.put, List.setIfInBounds_toArray, List.set_cons_zero, List.set_cons_succ]
          refine takeH (i := 4) 37 (v := .int .i64 (k : Int)) rfl rfl (by kernel_rfl) (by kernel_rfl) (by kernel_rfl) (fun _ _ _ h => h) (Or.inl ⟨by rfl, ?_⟩) (by assumption) ?_
          · intro w' hSw'
            go_simp
          simp only [Act.put, List.setIfInBounds_toArray, List.set_cons_zero, List.set_cons_succ]
          refine takeH (i := 5) 38 (v := .pointer (some ⟨b, off + k * 4, none⟩)) rfl rfl (by kernel_rfl) (by kernel_rfl) (by kernel_rfl) (fun _ _ _ h => h) (Or.inl ⟨by rfl, ?_⟩) (by assumption) ?_
          · intro w' hSw'
            go_simp
          simp only [Act.put, List.setIfInBounds_toArray, List.set_cons_zero, List.set_cons_succ]
          refine takeH (i := 6) 39 (v := .pointer (some ⟨b, off + k * 4, none⟩)) rfl rfl (by kernel_rfl) (by kernel_rfl) (by kernel_rfl) (fun _ _ _ h => h) (Or.inl ⟨by rfl, ?_⟩) (by assumption) ?_
          · intro w' hSw'
            go_simp
          simp only [Act.put, List.setIfInBounds_toArray, List.set_cons_zero, List.set_cons_succ]
          refine takeH (i := 7) 40 (v := .slice (some ⟨bb, ff, none⟩) K xkc) rfl rfl (by kernel_rfl) (by kernel_rfl) (by kernel_rfl) (fun _ _ _ h => h) (Or.inl ⟨by rfl, ?_⟩) (by assumption) ?_
          · intro w' hSw'
            obtain ⟨d0, d1, d2, d3⟩ := CF.out w' hSw'
            go_simp
          simp only [Act.put, List.setIfInBounds_toArray, List.set_cons_zero, List.set_cons_succ]
          refine takeH (i := 8) 41 (v := .int .i64 (T : Int)) rfl rfl (by kernel_rfl) (by kernel_rfl) (by kernel_rfl) (fun _ _ _ h => h) (Or.inl ⟨by rfl, ?_⟩) (by assumption) ?_
          · intro w' hSw'
            go_simp
          simp only [Act.put, List.setIfInBounds_toArray, List.set_cons_zero, List.set_cons_succ]
          refine takeH (i := 9) 42 (v := .slice (some ⟨bb, ff + T, none⟩) (K - T) (xkc - T)) rfl rfl (by kernel_rfl) (by kernel_rfl) (by kernel_rfl) (fun _ _ _ h => h) (Or.inl ⟨by rfl, ?_⟩) (by assumption) ?_
          · intro w' hSw'
            go_simp
          simp only [Act.put, List.setIfInBounds_toArray, List.set_cons_zero, List.set_cons_succ]
          refine takeH (i := 10) 43 (v := .string ⟨(xkey.drop T).toArray⟩) rfl rfl (by kernel_rfl) (by kernel_rfl) (by kernel_rfl) (fun _ _ _ h => h) (Or.inl ⟨by rfl, ?_⟩) (by assumption) ?_
          · intro w' hSw'
            have cv := KB.out w' hSw'
            go_simp
          simp only [Act.put, List.setIfInBounds_toArray, List.set_cons_zero, List.set_cons_succ]
          refine wpAnyH_ready (rs := [2]) (by kernel_rfl) (by simp) ?_
          refine AllReadyH.cons rfl (fun K hK => ?_) AllReadyH.nil
          go_simp
          refine (P1.out _ b2.out.drew).mono ?_
          rintro e w3 ⟨a3, k3, rfl, hs3, ho3, hb3⟩
          have b3 := keep hb3
          have S3 := keep hs3
          clear hb3 hs3 ho3
          go_wp2_with fail
          refine hK.out _ _ (b3.out) (fun hHeld2 => ?_)
          clear hK K
          refine wpAnyH_ready (rs := [11]) (by kernel_rfl) (by simp) ?_
          refine AllReadyH.cons rfl (fun K hK => ?_) AllReadyH.nil
          go_simp
          refine (P2.out _ a3 k3 b3.out S3.out).mono ?_
          rintro e w4 ⟨a4, k4, rfl, hs4, ho4, hb4⟩
          have b4 := keep hb4
          have S4 := keep hs4
          clear hb4 hs4 ho4
          go_wp2_with fail
          refine hK.out _ _ (b4.out) (fun hHeld3 => ?_)
          clear hK K
          refine takeH (i := 12) 4 (v := .slice a4 m2 k4) rfl rfl (by kernel_rfl) (by kernel_rfl) (by kernel_rfl) (fun _ _ _ h => h) (Or.inl ⟨by rfl, ?_⟩) (by assumption) ?_
          · intro w' hSw'
            go_simp
          simp only [Act.put, List.setIfInBounds_toArray, List.set_cons_zero, List.set_cons_succ]
          refine wpAnyH_done (by kernel_rfl) ?_ _
          obtain ⟨u0, u1, u2, u3⟩ := CF.out w4 b4.out
          cases xgone
          · have em : (mk : Int) = 2 * (q : Int) := by rw [hmk2]; simp
            rw [em] at P3
            go_wp2_with fail
            refine wp_region_held_drew (S := fun w' => Below wr.heap.size wr w') (by kernel_rfl) (b4.out.drew) (fun hHeld4 => ?_)
            refine takeH (i := 0) 58 (v := .slice a4 m2 k4) rfl rfl (by kernel_rfl) (by kernel_rfl) (by kernel_rfl) (fun _ _ _ h => h) (Or.inl ⟨by rfl, ?_⟩) (by assumption) ?_
            · intro w' hSw'
              go_simp
            simp only [Act.put, List.setIfInBounds_toArray, List.set_cons_zero, List.set_cons_succ]
            refine takeH (i := 1) 59 (v := .int .i64 (2 * (q : Int))) rfl rfl (by kernel_rfl) (by kernel_rfl) (by kernel_rfl) (fun _ _ _ h => h) (Or.inl ⟨by rfl, ?_⟩) (by assumption) ?_
            · intro w' hSw'
              go_simp
            simp only [Act.put, List.setIfInBounds_toArray, List.set_cons_zero, List.set_cons_succ]
            refine takeH (i := 3) 61 (v := .slice (some ⟨b, off, none⟩) n c) rfl rfl (by kernel_rfl) (by kernel_rfl) (by kernel_rfl) (fun _ _ _ h => h) (Or.inl ⟨by rfl, ?_⟩) (by assumption) ?_
            · intro w' hSw'
              go_simp
            simp only [Act.put, List.setIfInBounds_toArray, List.set_cons_zero, List.set_cons_succ]
            refine takeH (i := 4) 62 (v := .int .i64 (k : Int)) rfl rfl (by kernel_rfl) (by kernel_rfl) (by kernel_rfl) (fun _ _ _ h => h) (Or.inl ⟨by rfl, ?_⟩) (by assumption) ?_
            · intro w' hSw'
              go_simp
            simp only [Act.put, List.setIfInBounds_toArray, List.set_cons_zero, List.set_cons_succ]
            refine takeH (i := 5) 63 (v := .pointer (some ⟨b, off + k * 4, none⟩)) rfl rfl (by kernel_rfl) (by kernel_rfl) (by kernel_rfl) (fun _ _ _ h => h) (Or.inl ⟨by rfl, ?_⟩) (by assumption) ?_
            · intro w' hSw'
              go_simp
            simp only [Act.put, List.setIfInBounds_toArray, List.set_cons_zero, List.set_cons_succ]
            refine takeH (i := 6) 64 (v := .pointer (some ⟨b, off + k * 4 + 3, none⟩)) rfl rfl (by kernel_rfl) (by kernel_rfl) (by kernel_rfl) (fun _ _ _ h => h) (Or.inl ⟨by rfl, ?_⟩) (by assumption) ?_
            · intro w' hSw'
              go_simp
            simp only [Act.put, List.setIfInBounds_toArray, List.set_cons_zero, List.set_cons_succ]
            refine takeH (i := 7) 65 (v := .slice xvp V xvc) rfl rfl (by kernel_rfl) (by kernel_rfl) (by kernel_rfl) (fun _ _ _ h => h) (Or.inl ⟨by rfl, ?_⟩) (by assumption) ?_
            · intro w' hSw'
              obtain ⟨d0, d1, d2, d3⟩ := CF.out w' hSw'
              go_simp
            simp only [Act.put, List.setIfInBounds_toArray, List.set_cons_zero, List.set_cons_succ]
            refine takeH (i := 8) 66 (v := .string ⟨xval.toArray⟩) rfl rfl (by kernel_rfl) (by kernel_rfl) (by kernel_rfl) (fun _ _ _ h => h) (Or.inl ⟨by rfl, ?_⟩) (by assumption) ?_
            · intro w' hSw'
              have cv := KV.out w' hSw'
              go_simp
            simp only [Act.put, List.setIfInBounds_toArray, List.set_cons_zero, List.set_cons_succ]
            refine wpAnyH_ready (rs := [2]) (by kernel_rfl) (by simp) ?_
            refine AllReadyH.cons rfl (fun K hK => ?_) AllReadyH.nil
            go_simp
            refine (P3.out _ a4 k4 b4.out.drew (S4.out.below (Below.refl _ _).drew)).mono ?_
            rintro e w5 ⟨a5, k5, rfl, hs5, ho5, hb5⟩
            have b5 := keep hb5
            have S5 := keep hs5
            clear hb5 hs5 ho5
            go_wp2_with fail
            refine hK.out _ _ (b5.out) (fun hHeld5 => ?_)
            clear hK K
            refine wpAnyH_ready (rs := [9]) (by kernel_rfl) (by simp) ?_
            refine AllReadyH.cons rfl (fun K hK => ?_) AllReadyH.nil
            go_simp
            refine (P4.out _ a5 k5 b5.out S5.out).mono ?_
            rintro e w6 ⟨a6, k6, rfl, hs6, ho6, hb6⟩
            have N6 := keep (NX.out w6 a6 k6 hb6 hs6 ho6)
            have b6 := keep hb6
            clear hb6 hs6 ho6
            go_wp2_with fail
            refine hK.out _ _ (b6.out) (fun hHeld6 => ?_)
            clear hK K
            refine takeH (i := 10) 4 (v := .slice a6 L4.length k6) rfl rfl (by kernel_rfl) (by kernel_rfl) (by kernel_rfl) (fun _ _ _ h => h) (Or.inl ⟨by rfl, ?_⟩) (by assumption) ?_
            · intro w' hSw'
              go_simp
            simp only [Act.put, List.setIfInBounds_toArray, List.set_cons_zero, List.set_cons_succ]
            refine wpAnyH_done (by kernel_rfl) ?_ _
            go_wp2
            go_roundw
            case rel => exact ⟨k + 1, a6, k6, L4, some ⟨bb, ff, none⟩, K, xkc, xkey, by omega, rfl, rfl, by first | rfl | go_num, N6.out⟩
            case measure => simp [intOf]; omega
          · have em : (mk : Int) = 2 * (q : Int) + 1 := by rw [hmk2]; simp
            rw [em] at P3
            go_wp2_with fail
            refine wp_region_held_drew (S := fun w' => Below wr.heap.size wr w') (by kernel_rfl) (b4.out.drew) (fun hHeld4 => ?_)
            refine takeH (i := 0) 58 (v := .slice a4 m2 k4) rfl rfl (by kernel_rfl) (by kernel_rfl) (by kernel_rfl) (fun _ _ _ h => h) (Or.inl ⟨by rfl, ?_⟩) (by assumption) ?_
            · intro w' hSw'
              go_simp
            simp only [Act.put, List.setIfInBounds_toArray, List.set_cons_zero, List.set_cons_succ]
            refine takeH (i := 1) 59 (v := .int .i64 (2 * (q : Int) + 1)) rfl rfl (by kernel_rfl) (by kernel_rfl) (by kernel_rfl) (fun _ _ _ h => h) (Or.inl ⟨by rfl, ?_⟩) (by assumption) ?_
            · intro w' hSw'
              go_simp
            simp only [Act.put, List.setIfInBounds_toArray, List.set_cons_zero, List.set_cons_succ]
            refine takeH (i := 3) 61 (v := .slice (some ⟨b, off, none⟩) n c) rfl rfl (by kernel_rfl) (by kernel_rfl) (by kernel_rfl) (fun _ _ _ h => h) (Or.inl ⟨by rfl, ?_⟩) (by assumption) ?_
            · intro w' hSw'
              go_simp
            simp only [Act.put, List.setIfInBounds_toArray, List.set_cons_zero, List.set_cons_succ]
            refine takeH (i := 4) 62 (v := .int .i64 (k : Int)) rfl rfl (by kernel_rfl) (by kernel_rfl) (by kernel_rfl) (fun _ _ _ h => h) (Or.inl ⟨by rfl, ?_⟩) (by assumption) ?_
            · intro w' hSw'
              go_simp
            simp only [Act.put, List.setIfInBounds_toArray, List.set_cons_zero, List.set_cons_succ]
            refine takeH (i := 5) 63 (v := .pointer (some ⟨b, off + k * 4, none⟩)) rfl rfl (by kernel_rfl) (by kernel_rfl) (by kernel_rfl) (fun _ _ _ h => h) (Or.inl ⟨by rfl, ?_⟩) (by assumption) ?_
            · intro w' hSw'
              go_simp
            simp only [Act.put, List.setIfInBounds_toArray, List.set_cons_zero, List.set_cons_succ]
            refine takeH (i := 6) 64 (v := .pointer (some ⟨b, off + k * 4 + 3, none⟩)) rfl rfl (by kernel_rfl) (by kernel_rfl) (by kernel_rfl) (fun _ _ _ h => h) (Or.inl ⟨by rfl, ?_⟩) (by assumption) ?_
            · intro w' hSw'
              go_simp
            simp only [Act.put, List.setIfInBounds_toArray, List.set_cons_zero, List.set_cons_succ]
            refine takeH (i := 7) 65 (v := .slice xvp V xvc) rfl rfl (by kernel_rfl) (by kernel_rfl) (by kernel_rfl) (fun _ _ _ h => h) (Or.inl ⟨by rfl, ?_⟩) (by assumption) ?_
            · intro w' hSw'
              obtain ⟨d0, d1, d2, d3⟩ := CF.out w' hSw'
              go_simp
            simp only [Act.put, List.setIfInBounds_toArray, List.set_cons_zero, List.set_cons_succ]
            refine takeH (i := 8) 66 (v := .string ⟨xval.toArray⟩) rfl rfl (by kernel_rfl) (by kernel_rfl) (by kernel_rfl) (fun _ _ _ h => h) (Or.inl ⟨by rfl, ?_⟩) (by assumption) ?_
            · intro w' hSw'
              have cv := KV.out w' hSw'
              go_simp
            simp only [Act.put, List.setIfInBounds_toArray, List.set_cons_zero, List.set_cons_succ]
            refine wpAnyH_ready (rs := [2]) (by kernel_rfl) (by simp) ?_
            refine AllReadyH.cons rfl (fun K hK => ?_) AllReadyH.nil
            go_simp
            refine (P3.out _ a4 k4 b4.out.drew (S4.out.below (Below.refl _ _).drew)).mono ?_
            rintro e w5 ⟨a5, k5, rfl, hs5, ho5, hb5⟩
            have b5 := keep hb5
            have S5 := keep hs5
            clear hb5 hs5 ho5
            go_wp2_with fail
            refine hK.out _ _ (b5.out) (fun hHeld5 => ?_)
            clear hK K
            refine wpAnyH_ready (rs := [9]) (by kernel_rfl) (by simp) ?_
            refine AllReadyH.cons rfl (fun K hK => ?_) AllReadyH.nil
            go_simp
            refine (P4.out _ a5 k5 b5.out S5.out).mono ?_
            rintro e w6 ⟨a6, k6, rfl, hs6, ho6, hb6⟩
            have N6 := keep (NX.out w6 a6 k6 hb6 hs6 ho6)
            have b6 := keep hb6
            clear hb6 hs6 ho6
            go_wp2_with fail
            refine hK.out _ _ (b6.out) (fun hHeld6 => ?_)
            clear hK K
            refine takeH (i := 10) 4 (v := .slice a6 L4.length k6) rfl rfl (by kernel_rfl) (by kernel_rfl) (by kernel_rfl) (fun _ _ _ h => h) (Or.inl ⟨by rfl, ?_⟩) (by assumption) ?_
            · intro w' hSw'
              go_simp
            simp only [Act.put, List.setIfInBounds_toArray, List.set_cons_zero, List.set_cons_succ]
            refine wpAnyH_done (by kernel_rfl) ?_ _
            go_wp2
            go_roundw
            case rel => exact ⟨k + 1, a6, k6, L4, some ⟨bb, ff, none⟩, K, xkc, xkey, by omega, rfl, rfl, by first | rfl | go_num, N6.out⟩
            case measure => simp [intOf]; omega
        · obtain rfl : xkc = T := by omega
          obtain rfl : K = xkc := by omega
          have KB : Hid (∀ w', Below wr.heap.size wr w' → (convert 24 9 (.slice (some ⟨bb, ff, none⟩) 0 0)).run Tryz.prog w' = .ok (.string ⟨(xkey.drop K).toArray⟩) w') := fun w' hb' => conv_src ((HKS.out.below hb').tail0 K (by omega))
          have i2 : (0 : Int) ≤ (K : Int) := by omega
          have i3 : (K : Int) ≤ (K : Int) := by omega
          go_wp2_with fail
          refine SH.out.mono ?_
          rintro e w2 ⟨rfl, hb2⟩
          have b2 := keep hb2
          obtain ⟨d0, d1, d2, d3⟩ := CF.out w2 hb2
          clear hb2 SH
          go_wp2_with fail
          refine wp_region_held_drew (S := fun w' => Below wr.heap.size wr w') (by kernel_rfl) (b2.out.drew) (fun hHeld => ?_)
          refine takeH (i := 0) 33 (v := .slice a nb c3) rfl rfl (by kernel_rfl) (by kernel_rfl) (by kernel_rfl) (fun _ _ _ h => h) (Or.inl ⟨by rfl, ?_⟩) (by assumption) ?_
          · intro w' hSw'
            go_simp
          simp only [Act.put, List.setIfInBounds_toArray, List.set_cons_zero, List.set_cons_succ]
          refine takeH (i := 1) 34 (v := .int .i64 (K : Int)) rfl rfl (by kernel_rfl) (by kernel_rfl) (by kernel_rfl) (fun _ _ _ h => h) (Or.inl ⟨by rfl, ?_⟩) (by assumption) ?_
          · intro w' hSw'
            go_simp
          simp only [Act.put, List.setIfInBounds_toArray, List.set_cons_zero, List.set_cons_succ]
          refine takeH (i := 3) 36 (v := .slice (some ⟨b, off, none⟩) n c) rfl rfl (by kernel_rfl) (by kernel_rfl) (by kernel_rfl) (fun _ _ _ h => h) (Or.inl ⟨by rfl, ?_⟩) (by assumption) ?_
          · intro w' hSw'
            go_simp
          simp only [Act.put, List.setIfInBounds_toArray, List.set_cons_zero, List.set_cons_succ]
          refine takeH (i := 4) 37 (v := .int .i64 (k : Int)) rfl rfl (by kernel_rfl) (by kernel_rfl) (by kernel_rfl) (fun _ _ _ h => h) (Or.inl ⟨by rfl, ?_⟩) (by assumption) ?_
          · intro w' hSw'
            go_simp
          simp only [Act.put, List.setIfInBounds_toArray, List.set_cons_zero, List.set_cons_succ]
          refine takeH (i := 5) 38 (v := .pointer (some ⟨b, off + k * 4, none⟩)) rfl rfl (by kernel_rfl) (by kernel_rfl) (by kernel_rfl) (fun _ _ _ h => h) (Or.inl ⟨by rfl, ?_⟩) (by assumption) ?_
          · intro w' hSw'
            go_simp
          simp only [Act.put, List.setIfInBounds_toArray, List.set_cons_zero, List.set_cons_succ]
          refine takeH (i := 6) 39 (v := .pointer (some ⟨b, off + k * 4, none⟩)) rfl rfl (by kernel_rfl) (by kernel_rfl) (by kernel_rfl) (fun _ _ _ h => h) (Or.inl ⟨by rfl, ?_⟩) (by assumption) ?_
          · intro w' hSw'
            go_simp
          simp only [Act.put, List.setIfInBounds_toArray, List.set_cons_zero, List.set_cons_succ]
          refine takeH (i := 7) 40 (v := .slice (some ⟨bb, ff, none⟩) K K) rfl rfl (by kernel_rfl) (by kernel_rfl) (by kernel_rfl) (fun _ _ _ h => h) (Or.inl ⟨by rfl, ?_⟩) (by assumption) ?_
          · intro w' hSw'
            obtain ⟨d0, d1, d2, d3⟩ := CF.out w' hSw'
            go_simp
          simp only [Act.put, List.setIfInBounds_toArray, List.set_cons_zero, List.set_cons_succ]
          refine takeH (i := 8) 41 (v := .int .i64 (K : Int)) rfl rfl (by kernel_rfl) (by kernel_rfl) (by kernel_rfl) (fun _ _ _ h => h) (Or.inl ⟨by rfl, ?_⟩) (by assumption) ?_
          · intro w' hSw'
            go_simp
          simp only [Act.put, List.setIfInBounds_toArray, List.set_cons_zero, List.set_cons_succ]
          refine takeH (i := 9) 42 (v := .slice (some ⟨bb, ff, none⟩) 0 0) rfl rfl (by kernel_rfl) (by kernel_rfl) (by kernel_rfl) (fun _ _ _ h => h) (Or.inl ⟨by rfl, ?_⟩) (by assumption) ?_
          · intro w' hSw'
            go_simp
          simp only [Act.put, List.setIfInBounds_toArray, List.set_cons_zero, List.set_cons_succ]
          refine takeH (i := 10) 43 (v := .string ⟨(xkey.drop K).toArray⟩) rfl rfl (by kernel_rfl) (by kernel_rfl) (by kernel_rfl) (fun _ _ _ h => h) (Or.inl ⟨by rfl, ?_⟩) (by assumption) ?_
          · intro w' hSw'
            have cv := KB.out w' hSw'
            go_simp
          simp only [Act.put, List.setIfInBounds_toArray, List.set_cons_zero, List.set_cons_succ]
          refine wpAnyH_ready (rs := [2]) (by kernel_rfl) (by simp) ?_
          refine AllReadyH.cons rfl (fun K hK => ?_) AllReadyH.nil
          go_simp
          refine (P1.out _ b2.out.drew).mono ?_
          rintro e w3 ⟨a3, k3, rfl, hs3, ho3, hb3⟩
          have b3 := keep hb3
          have S3 := keep hs3
          clear hb3 hs3 ho3
          go_wp2_with fail
          refine hK.out _ _ (b3.out) (fun hHeld2 => ?_)
          clear hK K
          refine wpAnyH_ready (rs := [11]) (by kernel_rfl) (by simp) ?_
          refine AllReadyH.cons rfl (fun K hK => ?_) AllReadyH.nil
          go_simp
          refine (P2.out _ a3 k3 b3.out S3.out).mono ?_
          rintro e w4 ⟨a4, k4, rfl, hs4, ho4, hb4⟩
          have b4 := keep hb4
          have S4 := keep hs4
          clear hb4 hs4 ho4
          go_wp2_with fail
          refine hK.out _ _ (b4.out) (fun hHeld3 => ?_)
          clear hK K
          refine takeH (i := 12) 4 (v := .slice a4 m2 k4) rfl rfl (by kernel_rfl) (by kernel_rfl) (by kernel_rfl) (fun _ _ _ h => h) (Or.inl ⟨by rfl, ?_⟩) (by assumption) ?_
          · intro w' hSw'
            go_simp
          simp only [Act.put, List.setIfInBounds_toArray, List.set_cons_zero, List.set_cons_succ]
          refine wpAnyH_done (by kernel_rfl) ?_ _
          obtain ⟨u0, u1, u2, u3⟩ := CF.out w4 b4.out
          cases xgone
          · have em : (mk : Int) = 2 * (q : Int) := by rw [hmk2]; simp
            rw [em] at P3
            go_wp2_with fail
            refine wp_region_held_drew (S := fun w' => Below wr.heap.size wr w') (by kernel_rfl) (b4.out.drew) (fun hHeld4 => ?_)
            refine takeH (i := 0) 58 (v := .slice a4 m2 k4) rfl rfl (by kernel_rfl) (by kernel_rfl) (by kernel_rfl) (fun _ _ _ h => h) (Or.inl ⟨by rfl, ?_⟩) (by assumption) ?_
            · intro w' hSw'
              go_simp
            simp only [Act.put, List.setIfInBounds_toArray, List.set_cons_zero, List.set_cons_succ]
            refine takeH (i := 1) 59 (v := .int .i64 (2 * (q : Int))) rfl rfl (by kernel_rfl) (by kernel_rfl) (by kernel_rfl) (fun _ _ _ h => h) (Or.inl ⟨by rfl, ?_⟩) (by assumption) ?_
            · intro w' hSw'
              go_simp
            simp only [Act.put, List.setIfInBounds_toArray, List.set_cons_zero, List.set_cons_succ]
            refine takeH (i := 3) 61 (v := .slice (some ⟨b, off, none⟩) n c) rfl rfl (by kernel_rfl) (by kernel_rfl) (by kernel_rfl) (fun _ _ _ h => h) (Or.inl ⟨by rfl, ?_⟩) (by assumption) ?_
            · intro w' hSw'
              go_simp
            simp only [Act.put, List.setIfInBounds_toArray, List.set_cons_zero, List.set_cons_succ]
            refine takeH (i := 4) 62 (v := .int .i64 (k : Int)) rfl rfl (by kernel_rfl) (by kernel_rfl) (by kernel_rfl) (fun _ _ _ h => h) (Or.inl ⟨by rfl, ?_⟩) (by assumption) ?_
            · intro w' hSw'
              go_simp
            simp only [Act.put, List.setIfInBounds_toArray, List.set_cons_zero, List.set_cons_succ]
            refine takeH (i := 5) 63 (v := .pointer (some ⟨b, off + k * 4, none⟩)) rfl rfl (by kernel_rfl) (by kernel_rfl) (by kernel_rfl) (fun _ _ _ h => h) (Or.inl ⟨by rfl, ?_⟩) (by assumption) ?_
            · intro w' hSw'
              go_simp
            simp only [Act.put, List.setIfInBounds_toArray, List.set_cons_zero, List.set_cons_succ]
            refine takeH (i := 6) 64 (v := .pointer (some ⟨b, off + k * 4 + 3, none⟩)) rfl rfl (by kernel_rfl) (by kernel_rfl) (by kernel_rfl) (fun _ _ _ h => h) (Or.inl ⟨by rfl, ?_⟩) (by assumption) ?_
            · intro w' hSw'
              go_simp
            simp only [Act.put, List.setIfInBounds_toArray, List.set_cons_zero, List.set_cons_succ]
            refine takeH (i := 7) 65 (v := .slice xvp V xvc) rfl rfl (by kernel_rfl) (by kernel_rfl) (by kernel_rfl) (fun _ _ _ h => h) (Or.inl ⟨by rfl, ?_⟩) (by assumption) ?_
            · intro w' hSw'
              obtain ⟨d0, d1, d2, d3⟩ := CF.out w' hSw'
              go_simp
            simp only [Act.put, List.setIfInBounds_toArray, List.set_cons_zero, List.set_cons_succ]
            refine takeH (i := 8) 66 (v := .string ⟨xval.toArray⟩) rfl rfl (by kernel_rfl) (by kernel_rfl) (by kernel_rfl) (fun _ _ _ h => h) (Or.inl ⟨by rfl, ?_⟩) (by assumption) ?_
            · intro w' hSw'
              have cv := KV.out w' hSw'
              go_simp
            simp only [Act.put, List.setIfInBounds_toArray, List.set_cons_zero, List.set_cons_succ]
            refine wpAnyH_ready (rs := [2]) (by kernel_rfl) (by simp) ?_
            refine AllReadyH.cons rfl (fun K hK => ?_) AllReadyH.nil
            go_simp
            refine (P3.out _ a4 k4 b4.out.drew (S4.out.below (Below.refl _ _).drew)).mono ?_
            rintro e w5 ⟨a5, k5, rfl, hs5, ho5, hb5⟩
            have b5 := keep hb5
            have S5 := keep hs5
            clear hb5 hs5 ho5
            go_wp2_with fail
            refine hK.out _ _ (b5.out) (fun hHeld5 => ?_)
            clear hK K
            refine wpAnyH_ready (rs := [9]) (by kernel_rfl) (by simp) ?_
            refine AllReadyH.cons rfl (fun K hK => ?_) AllReadyH.nil
            go_simp
            refine (P4.out _ a5 k5 b5.out S5.out).mono ?_
            rintro e w6 ⟨a6, k6, rfl, hs6, ho6, hb6⟩
            have N6 := keep (NX.out w6 a6 k6 hb6 hs6 ho6)
            have b6 := keep hb6
            clear hb6 hs6 ho6
            go_wp2_with fail
            refine hK.out _ _ (b6.out) (fun hHeld6 => ?_)
            clear hK K
            refine takeH (i := 10) 4 (v := .slice a6 L4.length k6) rfl rfl (by kernel_rfl) (by kernel_rfl) (by kernel_rfl) (fun _ _ _ h => h) (Or.inl ⟨by rfl, ?_⟩) (by assumption) ?_
            · intro w' hSw'
              go_simp
            simp only [Act.put, List.setIfInBounds_toArray, List.set_cons_zero, List.set_cons_succ]
            refine wpAnyH_done (by kernel_rfl) ?_ _
            go_wp2
            go_roundw
            case rel => exact ⟨k + 1, a6, k6, L4, some ⟨bb, ff, none⟩, K, K, xkey, by omega, rfl, rfl, by first | rfl | go_num, N6.out⟩
            case measure => simp [intOf]; omega
          · have em : (mk : Int) = 2 * (q : Int) + 1 := by rw [hmk2]; simp
            rw [em] at P3
            go_wp2_with fail
            refine wp_region_held_drew (S := fun w' => Below wr.heap.size wr w') (by kernel_rfl) (b4.out.drew) (fun hHeld4 => ?_)
            refine takeH (i := 0) 58 (v := .slice a4 m2 k4) rfl rfl (by kernel_rfl) (by kernel_rfl) (by kernel_rfl) (fun _ _ _ h => h) (Or.inl ⟨by rfl, ?_⟩) (by assumption) ?_
            · intro w' hSw'
              go_simp
            simp only [Act.put, List.setIfInBounds_toArray, List.set_cons_zero, List.set_cons_succ]
            refine takeH (i := 1) 59 (v := .int .i64 (2 * (q : Int) + 1)) rfl rfl (by kernel_rfl) (by kernel_rfl) (by kernel_rfl) (fun _ _ _ h => h) (Or.inl ⟨by rfl, ?_⟩) (by assumption) ?_
            · intro w' hSw'
              go_simp
            simp only [Act.put, List.setIfInBounds_toArray, List.set_cons_zero, List.set_cons_succ]
            refine takeH (i := 3) 61 (v := .slice (some ⟨b, off, none⟩) n c) rfl rfl (by kernel_rfl) (by kernel_rfl) (by kernel_rfl) (fun _ _ _ h => h) (Or.inl ⟨by rfl, ?_⟩) (by assumption) ?_
            · intro w' hSw'
              go_simp
            simp only [Act.put, List.setIfInBounds_toArray, List.set_cons_zero, List.set_cons_succ]
            refine takeH (i := 4) 62 (v := .int .i64 (k : Int)) rfl rfl (by kernel_rfl) (by kernel_rfl) (by kernel_rfl) (fun _ _ _ h => h) (Or.inl ⟨by rfl, ?_⟩) (by assumption) ?_
            · intro w' hSw'
              go_simp
            simp only [Act.put, List.setIfInBounds_toArray, List.set_cons_zero, List.set_cons_succ]
            refine takeH (i := 5) 63 (v := .pointer (some ⟨b, off + k * 4, none⟩)) rfl rfl (by kernel_rfl) (by kernel_rfl) (by kernel_rfl) (fun _ _ _ h => h) (Or.inl ⟨by rfl, ?_⟩) (by assumption) ?_
            · intro w' hSw'
              go_simp
            simp only [Act.put, List.setIfInBounds_toArray, List.set_cons_zero, List.set_cons_succ]
            refine takeH (i := 6) 64 (v := .pointer (some ⟨b, off + k * 4 + 3, none⟩)) rfl rfl (by kernel_rfl) (by kernel_rfl) (by kernel_rfl) (fun _ _ _ h => h) (Or.inl ⟨by rfl, ?_⟩) (by assumption) ?_
            · intro w' hSw'
              go_simp
            simp only [Act.put, List.setIfInBounds_toArray, List.set_cons_zero, List.set_cons_succ]
            refine takeH (i := 7) 65 (v := .slice xvp V xvc) rfl rfl (by kernel_rfl) (by kernel_rfl) (by kernel_rfl) (fun _ _ _ h => h) (Or.inl ⟨by rfl, ?_⟩) (by assumption) ?_
            · intro w' hSw'
              obtain ⟨d0, d1, d2, d3⟩ := CF.out w' hSw'
              go_simp
            simp only [Act.put, List.setIfInBounds_toArray, List.set_cons_zero, List.set_cons_succ]
            refine takeH (i := 8) 66 (v := .string ⟨xval.toArray⟩) rfl rfl (by kernel_rfl) (by kernel_rfl) (by kernel_rfl) (fun _ _ _ h => h) (Or.inl ⟨by rfl, ?_⟩) (by assumption) ?_
            · intro w' hSw'
              have cv := KV.out w' hSw'
              go_simp
            simp only [Act.put, List.setIfInBounds_toArray, List.set_cons_zero, List.set_cons_succ]
            refine wpAnyH_ready (rs := [2]) (by kernel_rfl) (by simp) ?_
            refine AllReadyH.cons rfl (fun K hK => ?_) AllReadyH.nil
            go_simp
            refine (P3.out _ a4 k4 b4.out.drew (S4.out.below (Below.refl _ _).drew)).mono ?_
            rintro e w5 ⟨a5, k5, rfl, hs5, ho5, hb5⟩
            have b5 := keep hb5
            have S5 := keep hs5
            clear hb5 hs5 ho5
            go_wp2_with fail
            refine hK.out _ _ (b5.out) (fun hHeld5 => ?_)
            clear hK K
            refine wpAnyH_ready (rs := [9]) (by kernel_rfl) (by simp) ?_
            refine AllReadyH.cons rfl (fun K hK => ?_) AllReadyH.nil
            go_simp
            refine (P4.out _ a5 k5 b5.out S5.out).mono ?_
            rintro e w6 ⟨a6, k6, rfl, hs6, ho6, hb6⟩
            have N6 := keep (NX.out w6 a6 k6 hb6 hs6 ho6)
            have b6 := keep hb6
            clear hb6 hs6 ho6
            go_wp2_with fail
            refine hK.out _ _ (b6.out) (fun hHeld6 => ?_)
            clear hK K
            refine takeH (i := 10) 4 (v := .slice a6 L4.length k6) rfl rfl (by kernel_rfl) (by kernel_rfl) (by kernel_rfl) (fun _ _ _ h => h) (Or.inl ⟨by rfl, ?_⟩) (by assumption) ?_
            · intro w' hSw'
              go_simp
            simp only [Act.put, List.setIfInBounds_toArray, List.set_cons_zero, List.set_cons_succ]
            refine wpAnyH_done (by kernel_rfl) ?_ _
            go_wp2
            go_roundw
            case rel => exact ⟨k + 1, a6, k6, L4, some ⟨bb, ff, none⟩, K, K, xkey, by omega, rfl, rfl, by first | rfl | go_num, N6.out⟩
            case measure => simp [intOf]; omega
      · obtain rfl : k = n := by omega
        have ll : ¬ (k : Int) < (k : Int) := by omega
        have hfull : L.take k = L := List.take_of_length_le (by rw [HLN.out]; exact Nat.le_refl _)
        have hraw : Bs = Bq.rawB L := by rw [hI.out.bytes, hfull, Bq.rawB, HLN.out]
        have hl3 := hI.out.len
        have PS := keep (rsummed_any a Bs.length c3 Bs wr (by omega) hI.out.src)
        have HR : Hid (summed Bs = Bq.blk L) := by show _ = _; rw [hraw]; rfl
        rw [HR.out] at PS
        clear hraw hfull hl3
        obtain ⟨nb, hnb⟩ : ∃ nb, Bs.length = nb := ⟨_, rfl⟩
        rw [hnb] at PS ⊢
        clear hnb
        go_wp2_with fail
        refine PS.out.mono ?_
        rintro e w3 ⟨v3, rfl, hn3⟩
        obtain ⟨a3, k3, rfl⟩ := own_slice hn3.1
        have O3 := keep (own_base hn3.1 (fun g hg => Nat.le_trans HB.out.size (hn3.1.lt g hg).1))
        have b3 := keep (HB.out.trans (hn3.2.mono HB.out.size))
        clear hn3 PS
        go_wp2
        go_ret2
        exact built_yes OK.out O3.out b3.out
end Go.Proofs.YtjblicgbdecbcaaGreat
