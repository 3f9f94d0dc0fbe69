/- The walk of MergeKeeps. -/
import Derived.Test.YtimgdhdfefldpaaNc
import Derived.Test.YtimgdhdfefldpaaNl
import Derived.Test.YtimgdhdfefldpaaNm
import Derived.Test.YtimgdhdfefldpaaXg
import Derived.Test.YtimgdhdfefldpaaX1
import Derived.Test.YtimgdhdfefldpaaOp
namespace Go.Proofs.Ytimgdhdfefldpaa
open Go.RowKit
open Sk (Ent)

/-- In a row each entry is its own version. -/
theorem ver_self {l : List Ent} (h : Sk.Up l) {e : Ent} (he : e ∈ l) : verE l e.key e.seq = some e := by
  unfold verE
  induction l with
  | nil => cases he
  | cons x l ih =>
    rw [List.find?_cons]
    rcases List.mem_cons.1 he with rfl | he
    · have : vers e.key e.seq e = true := by simp [vers]
      rw [this]
    · have hn : vers e.key e.seq x = false := by
        have hg := h.1 e he
        unfold Sk.Goes Sk.aheadOf at hg
        unfold vers
        split at hg
        · have := of_decide_eq_true hg
          rw [decide_eq_false (show ¬ x.seq ≤ e.seq by omega), Bool.and_false]
        · rename_i hk
          rw [decide_eq_false hk, Bool.false_and]
      rw [hn]
      exact ih h.2 he
/-- What is seen, in memory. -/
theorem vis_mem (ao : Option Addr) (n c : Nat) (es : List EV) (s : Int) (L : List Ent) (M : Nat) (w : World) (hs : RSrc entKind w ao n c es) (hN : n ≤ 1000000) (hc : c ≤ maxLen) (hsm : ∀ y ∈ es, y.e.key.length ≤ 140737488355328 ∧ y.e.val.length ≤ 140737488355328) (hL : Mg.vis (es.map (·.e)) s = L) (hM : L.length = M) :
    Calls Try.prog 13 #[.slice ao n c, .int .i64 s] w fun e w' => ∃ a c ys, e = .returned (.slice a M c) ∧ RSrc entKind w' a M c ys ∧ ys.map (·.e) = L ∧ Below w.heap.size w w' := by
  refine (visible_any ao n c es s w hs hN hc hsm).mono ?_
  rintro e w' ⟨v, ys, rfl, hE, hV, hb⟩
  rw [hL] at hV
  have h2 : ys.length = M := by
    have := congrArg List.length hV
    rw [List.length_map] at this
    omega
  obtain ⟨za, zc, rfl, hz, _⟩ := hE.src
  rw [h2] at hz ⊢
  exact ⟨za, zc, ys, rfl, hz, hV, hb⟩
theorem vis_few (l : List Ent) (s : Int) : (Mg.vis l s).length ≤ l.length := by
  have h : ∀ gs : List (List Ent), ((gs.map (Mg.seen s)).flatten).length ≤ gs.flatten.length := fun gs => by
    induction gs with
    | nil => exact Nat.le_refl _
    | cons g gs ih =>
      have := seen_len s g
      simp only [List.map_cons, List.flatten_cons, List.length_append]
      omega
  have := h (Mg.parts Mg.oneKey l)
  rwa [Mg.parts_flat] at this
set_option maxHeartbeats 3000000 in
set_option maxRecDepth 100000 in
theorem keeps_walk (ao : Option Addr) (n c : Nat) (es : List EV) (p : Option Addr) (N C : Nat) (zs : List Int) (bottom : Bool) (w : World) (hs : RSrc entKind w ao n c es) (hz : RSrc inK w p N C zs) (hc : c ≤ maxLen) (hnear : NearE es) (hbig : n ≤ 140737488355328) :
    Calls Try.prog 6 #[.slice ao n c, .slice p N C, .bool bottom] w fun e w' => e = .returned (.bool true) ∧ Below w.heap.size w w' := by
  have HS := keep hs
  have HZ := keep hz
  have HLEN := keep hs.len
  have HZL := keep hz.len
  have HC := keep hc
  have NE := keep hnear
  have AW := keep (awake_any w)
  clear hs hnear hc hz
  go_enter Try.func6, Try.ntmps6
  go_wp2_with fail
  refine AW.out.mono ?_
  rintro e w1 ⟨rfl, hb1⟩
  have B1 := keep hb1
  have S1 := keep (HS.out.below entKind_ok hb1)
  have Z1 := keep (HZ.out.below inK_ok hb1)
  have OR := keep (ordered_any ao n c es w1 S1.out hbig NE.out)
  clear hb1 AW hbig
  go_wp2_with fail
  refine OR.out.mono ?_
  rintro e w2 ⟨r, rfl, hr, hb2⟩
  have B2 := keep (B1.out.trans (hb2.mono B1.out.size))
  have S2 := keep (S1.out.below entKind_ok hb2)
  have Z2 := keep (Z1.out.below inK_ok hb2)
  clear OR hb2
  cases r with
  | false =>
    go_wp2
    go_ret
    exact ⟨rfl, B2.out⟩
  | true =>
    have UP := keep (hr rfl).1
    have MAY := keep (hr rfl).2
    clear hr
    by_cases hn : 300 < n
    · have e1 : (300 : Int) < (n : Int) := by omega
      go_wp2
      go_ret
      exact ⟨rfl, B2.out⟩
    by_cases hN : 30 < N
    · have e1 : ¬ (300 : Int) < (n : Int) := by omega
      have e2 : (30 : Int) < (N : Int) := by omega
      go_wp2
      go_ret
      exact ⟨rfl, B2.out⟩
    · have e1 : ¬ (300 : Int) < (n : Int) := by omega
      have e2 : ¬ (30 : Int) < (N : Int) := by omega
      have e3 : (N : Int) ≤ 30 := by omega
      have PR := keep (prune_any ao n c es p N C zs bottom w2 S2.out Z2.out (by omega) (by omega) HC.out NE.out)
      go_wp2_with fail
      refine PR.out.mono ?_
      rintro e w3 ⟨v3, ks, rfl, hE, hV, hb⟩
      obtain ⟨ka, kc, rfl, hks, hkc⟩ := hE.src
      have K3 := keep hks
      have KC := keep hkc
      have KV := keep hV
      have B3 := keep (B2.out.trans (hb.mono B2.out.size))
      have S3 := keep (S2.out.below entKind_ok hb)
      have Z3 := keep (Z2.out.below inK_ok hb)
      have SUB : Hid ((ks.map (·.e)).Sublist (es.map (·.e))) := by show List.Sublist _ _; rw [hV]; exact Mg.prune_sub _ _ _
      have NK : Hid (NearE ks) := fun y hy => by
        have h1 : y.e ∈ es.map (·.e) := SUB.out.mem (List.mem_map.2 ⟨y, hy, rfl⟩)
        obtain ⟨x, hx, hxe⟩ := List.mem_map.1 h1
        rw [← hxe]
        exact NE.out x hx
      have UK := keep (Mg.up_sub SUB.out UP.out)
      have MK : Hid (∀ x ∈ ks.map (·.e), Sk.may x = true) := fun x hx => MAY.out x (SUB.out.mem hx)
      have hql : ks.length ≤ n := by
        have := SUB.out.length_le
        rw [List.length_map, List.length_map, HLEN.out] at this
        exact this
      have VP : Hid (∀ s, (s ∈ zs ∨ ∀ e ∈ es.map (·.e), e.seq ≤ s) → Mg.vis (ks.map (·.e)) s = Mg.vis (es.map (·.e)) s) := fun s h => by
        rw [KV.out]
        exact Mg.vis_prune bottom _ _ (Nat.le_refl _) UP.out h
      obtain ⟨Q, hQ⟩ : ∃ Q, ks.length = Q := ⟨_, rfl⟩
      have HQ := keep hQ
      rw [hQ] at K3 hql ⊢
      have qb : (Q : Int) ≤ 300 := by omega
      clear hE hV hb hks hkc hQ PR
      go_wp2
      go_loopw [9] (fun i wr => ∃ k : Nat, k ≤ N ∧ i = .int .i64 (k : Int) ∧ Hid (Below w3.heap.size w3 wr)) (fun i _ => N - (intOf i).toNat)
      case atStart => exact ⟨0, Nat.zero_le _, rfl, Below.refl _ _⟩
      case round =>
        obtain ⟨i, hi, rfl, hB⟩ := hrel
        by_cases hin : i < N
        · have Z4 := Z3.out.below inK_ok hB.out
          obtain ⟨pb, po, rfl, _, _⟩ := Z4.form inK_ok (by omega)
          have pc := int_cell Z4 hin
          obtain ⟨P, hP⟩ : ∃ P, zs.getD i 0 = P := ⟨_, rfl⟩
          rw [hP] at pc
          have PIN : Hid (P ∈ zs) := by
            have hl := HZL.out
            rw [← hP, List.getD_eq_getElem?_getD, List.getElem?_eq_getElem (show i < zs.length by omega)]
            exact List.getElem_mem _
          have PC : Hid (∀ w', Below wr.heap.size wr w' → w'.cell? ⟨pb, po + i, none⟩ = some (.int .i64 P)) := fun w' hb => below_cell hb pc
          obtain ⟨M, hM⟩ : ∃ M, (Mg.vis (es.map (·.e)) P).length = M := ⟨_, rfl⟩
          have hM3 : M ≤ 300 := by
            have := vis_few (es.map (·.e)) P
            rw [List.length_map, HLEN.out] at this
            omega
          have VK : Hid (∀ w', Below wr.heap.size wr w' → Calls Try.prog 13 #[.slice ka Q kc, .int .i64 P] w' fun e w'' => ∃ a c ys, e = .returned (.slice a M c) ∧ RSrc entKind w'' a M c ys ∧ ys.map (·.e) = Mg.vis (es.map (·.e)) P ∧ Below wr.heap.size wr w'') := fun w' hb => by
            refine (vis_mem ka Q kc ks P (Mg.vis (es.map (·.e)) P) M w' (K3.out.below entKind_ok (hB.out.trans (hb.mono hB.out.size))) (by omega) KC.out NK.out (VP.out P (.inl PIN.out)) hM).mono ?_
            rintro e w'' ⟨a, c, ys, rfl, h1, h2, h3⟩
            exact ⟨a, c, ys, rfl, h1, h2, hb.trans (h3.mono hb.size)⟩
          have VL : Hid (∀ w', Below wr.heap.size wr w' → Calls Try.prog 13 #[.slice ao n c, .int .i64 P] w' fun e w'' => ∃ a c ys, e = .returned (.slice a M c) ∧ RSrc entKind w'' a M c ys ∧ ys.map (·.e) = Mg.vis (es.map (·.e)) P ∧ Below w'.heap.size w' w'') := fun w' hb => vis_mem ao n c es P (Mg.vis (es.map (·.e)) P) M w' (S3.out.below entKind_ok (hB.out.trans (hb.mono hB.out.size))) (by omega) HC.out NE.out rfl hM
          have g0 : (0 : Int) ≤ (i : Int) := by omega
          have g1 : (i : Int) < (N : Int) := by omega
          clear hP hM
          go_wp2_with fail
          refine wp_region_held_drew (S := fun w' => Below wr.heap.size wr w') (by kernel_rfl) ((Below.refl _ _).drew) (fun hHeld => ?_)
          refine takeH (i := 0) 39 (v := .slice ka Q kc) rfl rfl (by kernel_rfl) (by kernel_rfl) (by kernel_rfl) (fun _ _ _ h => h) (Or.inl ⟨by rfl, ?_⟩) (by assumption) ?_
          · intro w' hSw'
            go_simp
          simp only [Act.put, List.setIfInBounds_toArray, List.set_cons_zero, List.set_cons_succ]
          refine takeH (i := 1) 40 (v := .slice (some ⟨pb, po, none⟩) N C) rfl rfl (by kernel_rfl) (by kernel_rfl) (by kernel_rfl) (fun _ _ _ h => h) (Or.inl ⟨by rfl, ?_⟩) (by assumption) ?_
          · intro w' hSw'
            go_simp
          simp only [Act.put, List.setIfInBounds_toArray, List.set_cons_zero, List.set_cons_succ]
          refine takeH (i := 2) 41 (v := .int .i64 (i : Int)) rfl rfl (by kernel_rfl) (by kernel_rfl) (by kernel_rfl) (fun _ _ _ h => h) (Or.inl ⟨by rfl, ?_⟩) (by assumption) ?_
          · intro w' hSw'
            go_simp
          simp only [Act.put, List.setIfInBounds_toArray, List.set_cons_zero, List.set_cons_succ]
          refine takeH (i := 3) 42 (v := .pointer (some ⟨pb, po + i, none⟩)) rfl rfl (by kernel_rfl) (by kernel_rfl) (by kernel_rfl) (fun _ _ _ h => h) (Or.inl ⟨by rfl, ?_⟩) (by assumption) ?_
          · intro w' hSw'
            go_simp
          simp only [Act.put, List.setIfInBounds_toArray, List.set_cons_zero, List.set_cons_succ]
          refine takeH (i := 4) 43 (v := .int .i64 P) rfl rfl (by kernel_rfl) (by kernel_rfl) (by kernel_rfl) (fun _ _ _ h => h) (Or.inl ⟨by rfl, ?_⟩) (by assumption) ?_
          · intro w' hSw'
            have q9 := PC.out w' hSw'
            go_simp
          simp only [Act.put, List.setIfInBounds_toArray, List.set_cons_zero, List.set_cons_succ]
          refine takeH (i := 6) 45 (v := .slice ao n c) rfl rfl (by kernel_rfl) (by kernel_rfl) (by kernel_rfl) (fun _ _ _ h => h) (Or.inl ⟨by rfl, ?_⟩) (by assumption) ?_
          · intro w' hSw'
            go_simp
          simp only [Act.put, List.setIfInBounds_toArray, List.set_cons_zero, List.set_cons_succ]
          refine takeH (i := 7) 46 (v := .slice (some ⟨pb, po, none⟩) N C) rfl rfl (by kernel_rfl) (by kernel_rfl) (by kernel_rfl) (fun _ _ _ h => h) (Or.inl ⟨by rfl, ?_⟩) (by assumption) ?_
          · intro w' hSw'
            go_simp
          simp only [Act.put, List.setIfInBounds_toArray, List.set_cons_zero, List.set_cons_succ]
          refine takeH (i := 8) 47 (v := .int .i64 (i : Int)) rfl rfl (by kernel_rfl) (by kernel_rfl) (by kernel_rfl) (fun _ _ _ h => h) (Or.inl ⟨by rfl, ?_⟩) (by assumption) ?_
          · intro w' hSw'
            go_simp
          simp only [Act.put, List.setIfInBounds_toArray, List.set_cons_zero, List.set_cons_succ]
          refine takeH (i := 9) 48 (v := .pointer (some ⟨pb, po + i, none⟩)) rfl rfl (by kernel_rfl) (by kernel_rfl) (by kernel_rfl) (fun _ _ _ h => h) (Or.inl ⟨by rfl, ?_⟩) (by assumption) ?_
          · intro w' hSw'
            go_simp
          simp only [Act.put, List.setIfInBounds_toArray, List.set_cons_zero, List.set_cons_succ]
          refine takeH (i := 10) 49 (v := .int .i64 P) rfl rfl (by kernel_rfl) (by kernel_rfl) (by kernel_rfl) (fun _ _ _ h => h) (Or.inl ⟨by rfl, ?_⟩) (by assumption) ?_
          · intro w' hSw'
            have q9 := PC.out w' hSw'
            go_simp
          simp only [Act.put, List.setIfInBounds_toArray, List.set_cons_zero, List.set_cons_succ]
          refine wpAnyH_ready (rs := [5]) (by kernel_rfl) (by simp) ?_
          refine AllReadyH.cons rfl (fun K hK => ?_) AllReadyH.nil
          go_simp
          refine (VK.out _ (Below.refl _ _).drew).mono ?_
          rintro e w5 ⟨xa, xc, xs, rfl, hX, hXe, hb5⟩
          have X5 := keep hX
          have XE := keep hXe
          have b5 := keep hb5
          clear hX hXe hb5
          go_wp2_with fail
          refine hK.out _ _ (b5.out) (fun hHeld1 => ?_)
          clear hK K
          refine wpAnyH_ready (rs := [11]) (by kernel_rfl) (by simp) ?_
          refine AllReadyH.cons rfl (fun K hK => ?_) AllReadyH.nil
          go_simp
          refine (VL.out _ b5.out).mono ?_
          rintro e w6 ⟨ya, yc, ys, rfl, hY, hYe, hb6⟩
          have Y6 := keep hY
          have b6 := keep (b5.out.trans (hb6.mono b5.out.size))
          have X6 := keep (X5.out.below entKind_ok hb6)
          have SA := keep (same_yes xa M xc xs ya yc ys w6 (by omega) X6.out Y6.out (by rw [XE.out, hYe]))
          clear hY hYe hb6
          go_wp2_with fail
          refine hK.out _ _ (b6.out) (fun hHeld2 => ?_)
          clear hK K
          refine wpAnyH_ready (rs := [12]) (by kernel_rfl) (by simp) ?_
          refine AllReadyH.cons rfl (fun K hK => ?_) AllReadyH.nil
          go_simp
          refine (SA.out).mono ?_
          rintro e w7 ⟨rfl, hb7⟩
          have b7 := keep (b6.out.trans (hb7.mono b6.out.size))
          clear hb7
          go_wp2_with fail
          refine hK.out _ _ (b7.out) (fun hHeld3 => ?_)
          clear hK K
          refine takeH (i := 13) 52 (v := .bool false) rfl rfl (by kernel_rfl) (by kernel_rfl) (by kernel_rfl) (fun _ _ _ h => h) (Or.inl ⟨by rfl, ?_⟩) (by assumption) ?_
          · intro w' hSw'
            go_simp
          simp only [Act.put, List.setIfInBounds_toArray, List.set_cons_zero, List.set_cons_succ]
          refine wpAnyH_done (by kernel_rfl) ?_ _
          go_wp2
          go_roundw
          case rel => exact ⟨i + 1, by omega, by go_num, hB.out.trans (b7.out.mono hB.out.size)⟩
          case measure => simp [intOf]; omega
        · obtain rfl : N = i := by omega
          have b4 := keep hB.out
          have K4 := keep (K3.out.below entKind_ok hB.out)
          have S4 := keep (S3.out.below entKind_ok hB.out)
          have Z4 := keep (Z3.out.below inK_ok hB.out)
          obtain ⟨wo, hwo⟩ : ∃ wo, wo = wr := ⟨_, rfl⟩
          rw [← hwo] at b4 K4 S4 Z4 ⊢
          clear hwo hB
          go_wp2
          go_loopw [10] (fun j wr => ∃ k : Nat, k ≤ Q ∧ j = .int .i64 (k : Int) ∧ Hid (Below wo.heap.size wo wr)) (fun j _ => Q - (intOf j).toNat)
          case atStart => exact ⟨0, Nat.zero_le _, rfl, Below.refl _ _⟩
          case round =>
            obtain ⟨i, hi, rfl, hB⟩ := hrel
            by_cases hin : i < Q
            · have K5 := K4.out.below entKind_ok hB.out
              obtain ⟨kb, ko, rfl, _, _⟩ := K5.form entKind_ok (by omega)
              obtain ⟨x, hx⟩ : ∃ x, ks[i]? = some x := ⟨ks[i]'(by rw [HQ.out]; exact hin), List.getElem?_eq_getElem _⟩
              have xm := List.mem_of_getElem? hx
              have CX0 : ∀ w', Below wr.heap.size wr w' → _ := fun w' hb => ent_cells (K5.below entKind_ok hb) hx
              have XH := keep (K5.held x xm)
              have VS : Hid (verE (es.map (·.e)) x.e.key x.e.seq = some x.e) := ver_self UP.out (SUB.out.mem (List.mem_map.2 ⟨x, xm, rfl⟩))
              have GE : Hid (∀ w', Below wr.heap.size wr w' → Calls Try.prog 20 #[.slice ao n c, .slice x.kp x.e.key.length x.kc, .int .i64 x.e.seq] w' fun e w'' => ∃ y : EV, e = .returned (.tuple #[ev y, .bool true]) ∧ y.e = x.e ∧ entKind.held w'' y ∧ Below w'.heap.size w' w'') := fun w' hb => by
                refine (rversion_any ao n c es x.kp x.kc x.e.key x.e.seq w' (S4.out.below entKind_ok (hB.out.trans (hb.mono hB.out.size))) NE.out (by omega) (entKind_ok.below XH.out hb).1).mono ?_
                rintro e w'' ⟨y, rfl, h1, h2, h3⟩
                rw [VS.out] at h1 ⊢
                exact ⟨y, rfl, h1, h2.held, h3⟩
              have SO1 : Hid (∀ (y : EV) w', y.e = x.e → entKind.held w' y → entKind.held w' x → _) := fun y w' h1 h2 h3 => sameOne_yes y x w' h2 h3 h1
              have CX := keep CX0
              have g0 : (0 : Int) ≤ (i : Int) := by omega
              have g1 : (i : Int) < (Q : Int) := by omega
              clear hx xm CX0 VS
              obtain ⟨xkp, xkc, xvp, xvc, ⟨xkey, xseq, xgone, xval⟩⟩ := x
              simp only at CX GE
              go_wp2_with fail
              refine region_share (fun a a' w' => ∃ (g : Nat) (ykp : Option Addr) (ykc : Nat) (yvp : Option Addr) (yvc : Nat) (ykey : List UInt8) (yseq : Int) (ygone : Bool) (yval : List UInt8), a' = sets a [(60, .slice ao n c), (61, .slice (some ⟨kb, ko, none⟩) Q kc), (62, .int .i64 (i : Int)), (63, .pointer (some ⟨kb, ko + i * 4, none⟩)), (64, .pointer (some ⟨kb, ko + i * 4, none⟩)), (65, .slice xkp xkey.length xkc), (66, .slice (some ⟨kb, ko, none⟩) Q kc), (67, .int .i64 (i : Int)), (68, .pointer (some ⟨kb, ko + i * 4, none⟩)), (69, .pointer (some ⟨kb, ko + i * 4 + 1, none⟩)), (70, .int .i64 xseq), (59, .tuple #[.agg #[.slice ykp ykey.length ykc, .int .i64 yseq, .bool ygone, .slice yvp yval.length yvc], .bool true]), (72, .agg #[.slice ykp ykey.length ykc, .int .i64 yseq, .bool ygone, .slice yvp yval.length yvc]), (73, .bool true), (12, .bool true), (71, .tuple #[.agg #[.slice ykp ykey.length ykc, .int .i64 yseq, .bool ygone, .slice yvp yval.length yvc], .bool true]), (11, .pointer (some ⟨g, 0, none⟩))] ∧ GotE wr ⟨xkey, xseq, xgone, xval⟩ g ⟨ykp, ykc, yvp, yvc, ⟨ykey, yseq, ygone, yval⟩⟩ w') ?_ ?_
              · refine wp_region_held_drew (S := fun w' => Below wr.heap.size wr w') (by kernel_rfl) ((Below.refl _ _).drew) (fun hHeld => ?_)
                refine takeH (i := 0) 60 (v := .slice ao n c) rfl rfl (by kernel_rfl) (by kernel_rfl) (by kernel_rfl) (fun _ _ _ h => h) (Or.inl ⟨by rfl, ?_⟩) (by assumption) ?_
                · intro w' hSw'
                  go_simp
                simp only [Act.put, List.setIfInBounds_toArray, List.set_cons_zero, List.set_cons_succ]
                refine takeH (i := 1) 61 (v := .slice (some ⟨kb, ko, none⟩) Q kc) rfl rfl (by kernel_rfl) (by kernel_rfl) (by kernel_rfl) (fun _ _ _ h => h) (Or.inl ⟨by rfl, ?_⟩) (by assumption) ?_
                · intro w' hSw'
                  go_simp
                simp only [Act.put, List.setIfInBounds_toArray, List.set_cons_zero, List.set_cons_succ]
                refine takeH (i := 2) 62 (v := .int .i64 (i : Int)) rfl rfl (by kernel_rfl) (by kernel_rfl) (by kernel_rfl) (fun _ _ _ h => h) (Or.inl ⟨by rfl, ?_⟩) (by assumption) ?_
                · intro w' hSw'
                  go_simp
                simp only [Act.put, List.setIfInBounds_toArray, List.set_cons_zero, List.set_cons_succ]
                refine takeH (i := 3) 63 (v := .pointer (some ⟨kb, ko + i * 4, none⟩)) rfl rfl (by kernel_rfl) (by kernel_rfl) (by kernel_rfl) (fun _ _ _ h => h) (Or.inl ⟨by rfl, ?_⟩) (by assumption) ?_
                · intro w' hSw'
                  go_simp
                simp only [Act.put, List.setIfInBounds_toArray, List.set_cons_zero, List.set_cons_succ]
                refine takeH (i := 4) 64 (v := .pointer (some ⟨kb, ko + i * 4, none⟩)) rfl rfl (by kernel_rfl) (by kernel_rfl) (by kernel_rfl) (fun _ _ _ h => h) (Or.inl ⟨by rfl, ?_⟩) (by assumption) ?_
                · intro w' hSw'
                  go_simp
                simp only [Act.put, List.setIfInBounds_toArray, List.set_cons_zero, List.set_cons_succ]
                refine takeH (i := 5) 65 (v := .slice xkp xkey.length xkc) rfl rfl (by kernel_rfl) (by kernel_rfl) (by kernel_rfl) (fun _ _ _ h => h) (Or.inl ⟨by rfl, ?_⟩) (by assumption) ?_
                · intro w' hSw'
                  obtain ⟨y0, y1, y2, y3⟩ := CX.out w' hSw'
                  go_simp
                simp only [Act.put, List.setIfInBounds_toArray, List.set_cons_zero, List.set_cons_succ]
                refine takeH (i := 6) 66 (v := .slice (some ⟨kb, ko, none⟩) Q kc) rfl rfl (by kernel_rfl) (by kernel_rfl) (by kernel_rfl) (fun _ _ _ h => h) (Or.inl ⟨by rfl, ?_⟩) (by assumption) ?_
                · intro w' hSw'
                  go_simp
                simp only [Act.put, List.setIfInBounds_toArray, List.set_cons_zero, List.set_cons_succ]
                refine takeH (i := 7) 67 (v := .int .i64 (i : Int)) rfl rfl (by kernel_rfl) (by kernel_rfl) (by kernel_rfl) (fun _ _ _ h => h) (Or.inl ⟨by rfl, ?_⟩) (by assumption) ?_
                · intro w' hSw'
                  go_simp
                simp only [Act.put, List.setIfInBounds_toArray, List.set_cons_zero, List.set_cons_succ]
                refine takeH (i := 8) 68 (v := .pointer (some ⟨kb, ko + i * 4, none⟩)) rfl rfl (by kernel_rfl) (by kernel_rfl) (by kernel_rfl) (fun _ _ _ h => h) (Or.inl ⟨by rfl, ?_⟩) (by assumption) ?_
                · intro w' hSw'
                  go_simp
                simp only [Act.put, List.setIfInBounds_toArray, List.set_cons_zero, List.set_cons_succ]
                refine takeH (i := 9) 69 (v := .pointer (some ⟨kb, ko + i * 4 + 1, none⟩)) rfl rfl (by kernel_rfl) (by kernel_rfl) (by kernel_rfl) (fun _ _ _ h => h) (Or.inl ⟨by rfl, ?_⟩) (by assumption) ?_
                · intro w' hSw'
                  go_simp
                simp only [Act.put, List.setIfInBounds_toArray, List.set_cons_zero, List.set_cons_succ]
                refine takeH (i := 10) 70 (v := .int .i64 xseq) rfl rfl (by kernel_rfl) (by kernel_rfl) (by kernel_rfl) (fun _ _ _ h => h) (Or.inl ⟨by rfl, ?_⟩) (by assumption) ?_
                · intro w' hSw'
                  obtain ⟨y0, y1, y2, y3⟩ := CX.out w' hSw'
                  go_simp
                simp only [Act.put, List.setIfInBounds_toArray, List.set_cons_zero, List.set_cons_succ]
                refine wpAnyH_ready (rs := [11, 15]) (by kernel_rfl) (by simp) ?_
                refine AllReadyH.cons rfl (fun K hK => ?_) (AllReadyH.cons rfl (fun K hK => ?_) AllReadyH.nil)
                · go_simp
                  refine (GE.out _ ((Below.refl _ _).drew)).mono ?_
                  rintro e w5 ⟨y, rfl, hy, hyh, hb5⟩
                  have HY := keep hy
                  have YH := keep hyh
                  obtain ⟨ykp, ykc, yvp, yvc, ⟨ykey, yseq, ygone, yval⟩⟩ := y
                  unfold ev
                  simp only
                  have b5 : Hid (Below wr.heap.size wr w5) := ((Below.refl _ _).drew).trans (hb5.mono (Nat.le_refl _))
                  clear hy hyh hb5
                  go_wp2_with fail
                  refine hK.out _ _ (b5.out) (fun hA1 => ?_)
                  clear hK K
                  refine takeH (i := 12) 59 (v := .tuple #[.agg #[.slice ykp ykey.length ykc, .int .i64 yseq, .bool ygone, .slice yvp yval.length yvc], .bool true]) rfl rfl (by kernel_rfl) (by kernel_rfl) (by kernel_rfl) (fun _ _ _ h => h) (Or.inl ⟨by rfl, ?_⟩) (by assumption) ?_
                  · intro w' hSw'
                    go_simp
                  simp only [Act.put, List.setIfInBounds_toArray, List.set_cons_zero, List.set_cons_succ]
                  refine takeH (i := 13) 72 (v := .agg #[.slice ykp ykey.length ykc, .int .i64 yseq, .bool ygone, .slice yvp yval.length yvc]) rfl rfl (by kernel_rfl) (by kernel_rfl) (by kernel_rfl) (fun _ _ _ h => h) (Or.inl ⟨by rfl, ?_⟩) (by assumption) ?_
                  · intro w' hSw'
                    go_simp
                  simp only [Act.put, List.setIfInBounds_toArray, List.set_cons_zero, List.set_cons_succ]
                  refine takeH (i := 14) 73 (v := .bool true) rfl rfl (by kernel_rfl) (by kernel_rfl) (by kernel_rfl) (fun _ _ _ h => h) (Or.inl ⟨by rfl, ?_⟩) (by assumption) ?_
                  · intro w' hSw'
                    go_simp
                  simp only [Act.put, List.setIfInBounds_toArray, List.set_cons_zero, List.set_cons_succ]
                  refine wpAnyH_ready (rs := [15]) (by kernel_rfl) (by simp) ?_
                  refine AllReadyH.cons rfl (fun K hK => ?_) AllReadyH.nil
                  go_simp
                  refine hK.out _ _ (b5.out.alloc b5.out.size _) (fun hA2 => ?_)
                  clear hK K
                  refine wpAnyH_ready (rs := [16]) (by kernel_rfl) (by simp) ?_
                  refine AllReadyH.cons rfl (fun K hK => ?_) AllReadyH.nil
                  go_simp
                  refine hK.out _ _ (b5.out.alloc b5.out.size _) (fun hA3 => ?_)
                  clear hK K
                  refine takeH (i := 17) 12 (v := .bool true) rfl rfl (by kernel_rfl) (by kernel_rfl) (by kernel_rfl) (fun _ _ _ h => h) (Or.inl ⟨by rfl, ?_⟩) (by assumption) ?_
                  · intro w' hSw'
                    go_simp
                  simp only [Act.put, List.setIfInBounds_toArray, List.set_cons_zero, List.set_cons_succ]
                  refine wpAnyH_done (by kernel_rfl) ?_ _
                  exact ⟨_, ykp, ykc, yvp, yvc, ykey, yseq, ygone, yval, (by simp only [sets, Act.put, List.setIfInBounds_toArray, List.set_cons_zero, List.set_cons_succ]; all_goals rfl), got_alloc (y := ⟨ykp, ykc, yvp, yvc, ⟨ykey, yseq, ygone, yval⟩⟩) b5.out HY.out YH.out⟩
                · go_simp
                  have bZ : Hid (Below wr.heap.size wr (wr.drew.alloc (.cells #[.slice none 0 0, .int .i64 0, .bool false, .slice none 0 0] 36))) := ((Below.refl _ _).drew).alloc (Nat.le_refl _) _
                  refine hK.out _ _ (bZ.out) (fun hA1 => ?_)
                  clear hK K
                  refine wpAnyH_ready (rs := [11]) (by kernel_rfl) (by simp) ?_
                  refine AllReadyH.cons rfl (fun K hK => ?_) AllReadyH.nil
                  go_simp
                  refine (GE.out _ (bZ.out)).mono ?_
                  rintro e w5 ⟨y, rfl, hy, hyh, hb5⟩
                  have HY := keep hy
                  have YH := keep hyh
                  obtain ⟨ykp, ykc, yvp, yvc, ⟨ykey, yseq, ygone, yval⟩⟩ := y
                  unfold ev
                  simp only
                  have b5 : Hid (Below wr.heap.size wr w5) := bZ.out.trans (hb5.mono bZ.out.size)
                  have g5 : Hid (w5.heap[wr.heap.size]? = some (.cells #[.slice none 0 0, .int .i64 0, .bool false, .slice none 0 0] 36)) := (hb5.block _ (by simp)).trans (heap_alloc_new wr.drew _)
                  clear hy hyh hb5
                  go_wp2_with fail
                  refine hK.out _ _ (b5.out) (fun hA2 => ?_)
                  clear hK K
                  refine takeH (i := 12) 59 (v := .tuple #[.agg #[.slice ykp ykey.length ykc, .int .i64 yseq, .bool ygone, .slice yvp yval.length yvc], .bool true]) rfl rfl (by kernel_rfl) (by kernel_rfl) (by kernel_rfl) (fun _ _ _ h => h) (Or.inl ⟨by rfl, ?_⟩) (by assumption) ?_
                  · intro w' hSw'
                    go_simp
                  simp only [Act.put, List.setIfInBounds_toArray, List.set_cons_zero, List.set_cons_succ]
                  refine takeH (i := 13) 72 (v := .agg #[.slice ykp ykey.length ykc, .int .i64 yseq, .bool ygone, .slice yvp yval.length yvc]) rfl rfl (by kernel_rfl) (by kernel_rfl) (by kernel_rfl) (fun _ _ _ h => h) (Or.inl ⟨by rfl, ?_⟩) (by assumption) ?_
                  · intro w' hSw'
                    go_simp
                  simp only [Act.put, List.setIfInBounds_toArray, List.set_cons_zero, List.set_cons_succ]
                  refine takeH (i := 14) 73 (v := .bool true) rfl rfl (by kernel_rfl) (by kernel_rfl) (by kernel_rfl) (fun _ _ _ h => h) (Or.inl ⟨by rfl, ?_⟩) (by assumption) ?_
                  · intro w' hSw'
                    go_simp
                  simp only [Act.put, List.setIfInBounds_toArray, List.set_cons_zero, List.set_cons_succ]
                  refine wpAnyH_ready (rs := [16]) (by kernel_rfl) (by simp) ?_
                  refine AllReadyH.cons rfl (fun K hK => ?_) AllReadyH.nil
                  have t0 : w5.cell? ⟨wr.heap.size, 0, none⟩ = some (.slice none 0 0) := cell_of_row _ _ _ _ _ _ g5.out
                  have f0 : w5.frozen? ⟨wr.heap.size, 0, none⟩ = false := by simp [World.frozen?, g5.out]
                  have t1 : w5.cell? ⟨wr.heap.size, 1, none⟩ = some (.int .i64 0) := cell_of_row _ _ _ _ _ _ g5.out
                  have f1 : w5.frozen? ⟨wr.heap.size, 1, none⟩ = false := by simp [World.frozen?, g5.out]
                  have t2 : w5.cell? ⟨wr.heap.size, 2, none⟩ = some (.bool false) := cell_of_row _ _ _ _ _ _ g5.out
                  have f2 : w5.frozen? ⟨wr.heap.size, 2, none⟩ = false := by simp [World.frozen?, g5.out]
                  have t3 : w5.cell? ⟨wr.heap.size, 3, none⟩ = some (.slice none 0 0) := cell_of_row _ _ _ _ _ _ g5.out
                  have f3 : w5.frozen? ⟨wr.heap.size, 3, none⟩ = false := by simp [World.frozen?, g5.out]
                  have GS := keep (got_store (y := ⟨ykp, ykc, yvp, yvc, ⟨ykey, yseq, ygone, yval⟩⟩) g5.out (Nat.le_refl _) b5.out HY.out YH.out)
                  go_simp
                  refine hK.out _ _ (GS.out.bel) (fun hA3 => ?_)
                  clear hK K t0 t1 t2 t3 f0 f1 f2 f3
                  refine takeH (i := 17) 12 (v := .bool true) rfl rfl (by kernel_rfl) (by kernel_rfl) (by kernel_rfl) (fun _ _ _ h => h) (Or.inl ⟨by rfl, ?_⟩) (by assumption) ?_
                  · intro w' hSw'
                    go_simp
                  simp only [Act.put, List.setIfInBounds_toArray, List.set_cons_zero, List.set_cons_succ]
                  refine wpAnyH_done (by kernel_rfl) ?_ _
                  exact ⟨_, ykp, ykc, yvp, yvc, ykey, yseq, ygone, yval, (by simp only [sets, Act.put, List.setIfInBounds_toArray, List.set_cons_zero, List.set_cons_succ]; all_goals rfl), GS.out⟩
              rintro a' w5 ⟨g, ykp, ykc, yvp, yvc, ykey, yseq, ygone, yval, rfl, hG⟩
              have GG := keep hG
              clear hG
              simp only [sets, Act.put, List.setIfInBounds_toArray, List.set_cons_zero, List.set_cons_succ]
              have SO : Hid (∀ w', Below w5.heap.size w5 w' → Calls Try.prog 21 #[ev ⟨ykp, ykc, yvp, yvc, ⟨ykey, yseq, ygone, yval⟩⟩, ev ⟨xkp, xkc, xvp, xvc, ⟨xkey, xseq, xgone, xval⟩⟩] w' fun e w'' => e = .returned (.bool true) ∧ Below w5.heap.size w5 w'') := fun w' hb => by
                refine (SO1.out _ w' GG.out.same (entKind_ok.below GG.out.held hb) (entKind_ok.below XH.out (GG.out.bel.trans (hb.mono GG.out.bel.size)))).mono ?_
                rintro e w'' ⟨rfl, hb'⟩
                exact ⟨rfl, hb.trans (hb'.mono hb.size)⟩
              unfold ev at SO
              simp only at SO
              go_wp2_with fail
              refine wp_region_held_drew (S := fun w' => Below w5.heap.size w5 w') (by kernel_rfl) ((Below.refl _ _).drew) (fun hZ => ?_)
              refine takeH (i := 0) 74 (v := .bool true) rfl rfl (by kernel_rfl) (by kernel_rfl) (by kernel_rfl) (fun _ _ _ h => h) (Or.inl ⟨by rfl, ?_⟩) (by assumption) ?_
              · intro w' hSw'
                go_simp
              simp only [Act.put, List.setIfInBounds_toArray, List.set_cons_zero, List.set_cons_succ]
              refine takeH (i := 1) 75 (v := .bool false) rfl rfl (by kernel_rfl) (by kernel_rfl) (by kernel_rfl) (fun _ _ _ h => h) (Or.inl ⟨by rfl, ?_⟩) (by assumption) ?_
              · intro w' hSw'
                go_simp
              simp only [Act.put, List.setIfInBounds_toArray, List.set_cons_zero, List.set_cons_succ]
              refine takeH (i := 2) 76 (v := .bool false) rfl rfl (by kernel_rfl) (by kernel_rfl) (by kernel_rfl) (fun _ _ _ h => h) (Or.inl ⟨by rfl, ?_⟩) (by assumption) ?_
              · intro w' hSw'
                go_simp
              simp only [Act.put, List.setIfInBounds_toArray, List.set_cons_zero, List.set_cons_succ]
              refine takeH (i := 3) 77 (v := .agg #[.slice ykp ykey.length ykc, .int .i64 yseq, .bool ygone, .slice yvp yval.length yvc]) rfl rfl (by kernel_rfl) (by kernel_rfl) (by kernel_rfl) (fun _ _ _ h => h) (Or.inl ⟨by rfl, ?_⟩) (by assumption) ?_
              · intro w' hSw'
                obtain ⟨z0, z1, z2, z3⟩ := GG.out.cells hSw'
                go_simp
              simp only [Act.put, List.setIfInBounds_toArray, List.set_cons_zero, List.set_cons_succ]
              refine takeH (i := 4) 78 (v := .slice (some ⟨kb, ko, none⟩) Q kc) rfl rfl (by kernel_rfl) (by kernel_rfl) (by kernel_rfl) (fun _ _ _ h => h) (Or.inl ⟨by rfl, ?_⟩) (by assumption) ?_
              · intro w' hSw'
                go_simp
              simp only [Act.put, List.setIfInBounds_toArray, List.set_cons_zero, List.set_cons_succ]
              refine takeH (i := 5) 79 (v := .int .i64 (i : Int)) rfl rfl (by kernel_rfl) (by kernel_rfl) (by kernel_rfl) (fun _ _ _ h => h) (Or.inl ⟨by rfl, ?_⟩) (by assumption) ?_
              · intro w' hSw'
                go_simp
              simp only [Act.put, List.setIfInBounds_toArray, List.set_cons_zero, List.set_cons_succ]
              refine takeH (i := 6) 80 (v := .pointer (some ⟨kb, ko + i * 4, none⟩)) rfl rfl (by kernel_rfl) (by kernel_rfl) (by kernel_rfl) (fun _ _ _ h => h) (Or.inl ⟨by rfl, ?_⟩) (by assumption) ?_
              · intro w' hSw'
                go_simp
              simp only [Act.put, List.setIfInBounds_toArray, List.set_cons_zero, List.set_cons_succ]
              refine takeH (i := 7) 81 (v := .agg #[.slice xkp xkey.length xkc, .int .i64 xseq, .bool xgone, .slice xvp xval.length xvc]) rfl rfl (by kernel_rfl) (by kernel_rfl) (by kernel_rfl) (fun _ _ _ h => h) (Or.inl ⟨by rfl, ?_⟩) (by assumption) ?_
              · intro w' hSw'
                obtain ⟨y0, y1, y2, y3⟩ := CX.out w' (GG.out.bel.trans (hSw'.mono GG.out.bel.size))
                go_simp
              simp only [Act.put, List.setIfInBounds_toArray, List.set_cons_zero, List.set_cons_succ]
              refine wpAnyH_ready (rs := [8]) (by kernel_rfl) (by simp) ?_
              refine AllReadyH.cons rfl (fun K hK => ?_) AllReadyH.nil
              go_simp
              refine (SO.out _ (Below.refl _ _).drew).mono ?_
              rintro e w8 ⟨rfl, hb8⟩
              have b8 := keep hb8
              clear hb8
              go_wp2_with fail
              refine hK.out _ _ (b8.out) (fun hZ1 => ?_)
              clear hK K
              refine takeH (i := 9) 83 (v := .bool false) rfl rfl (by kernel_rfl) (by kernel_rfl) (by kernel_rfl) (fun _ _ _ h => h) (Or.inl ⟨by rfl, ?_⟩) (by assumption) ?_
              · intro w' hSw'
                go_simp
              simp only [Act.put, List.setIfInBounds_toArray, List.set_cons_zero, List.set_cons_succ]
              refine takeH (i := 10) 84 (v := .bool false) rfl rfl (by kernel_rfl) (by kernel_rfl) (by kernel_rfl) (fun _ _ _ h => h) (Or.inl ⟨by rfl, ?_⟩) (by assumption) ?_
              · intro w' hSw'
                go_simp
              simp only [Act.put, List.setIfInBounds_toArray, List.set_cons_zero, List.set_cons_succ]
              refine wpAnyH_done (by kernel_rfl) ?_ _
              have BF := keep (GG.out.bel.trans (b8.out.mono GG.out.bel.size))
              go_wp2
              go_roundw
              case rel => exact ⟨i + 1, by omega, by go_num, hB.out.trans (BF.out.mono hB.out.size)⟩
              case measure => simp [intOf]; omega
            · obtain rfl : i = Q := by omega
              have K5 := keep (K4.out.below entKind_ok hB.out)
              have S5 := keep (S4.out.below entKind_ok hB.out)
              have Z5 := keep (Z4.out.below inK_ok hB.out)
              have O5 := keep (ordered_yes ka i kc ks wr K5.out (by omega) NK.out UK.out MK.out)
              have TOP : Hid (∀ e ∈ es.map (·.e), e.seq ≤ 1099511627776) := fun e he => by
                have := MAY.out e he
                simp only [Sk.may, Bool.and_eq_true, decide_eq_true_eq] at this
                exact this.1.1.2
              obtain ⟨M, hM⟩ : ∃ M, (Mg.vis (es.map (·.e)) 1099511627776).length = M := ⟨_, rfl⟩
              have hM3 : M ≤ 300 := by
                have := vis_few (es.map (·.e)) 1099511627776
                rw [List.length_map, HLEN.out] at this
                omega
              go_wp2_with fail
              refine O5.out.mono ?_
              rintro e w6 ⟨rfl, hb6⟩
              have b6 := keep hb6
              have V6 := keep (vis_mem ka i kc ks 1099511627776 (Mg.vis (es.map (·.e)) 1099511627776) M w6 (K5.out.below entKind_ok hb6) (by omega) KC.out NK.out (VP.out _ (.inr TOP.out)) hM)
              clear hb6 O5
              go_wp2_with fail
              refine V6.out.mono ?_
              rintro e w7 ⟨xa, xc, xs, rfl, hX, hXe, hb7⟩
              have X7 := keep hX
              have XE := keep hXe
              have b7 := keep (b6.out.trans (hb7.mono b6.out.size))
              have V7 := keep (vis_mem ao n c es 1099511627776 (Mg.vis (es.map (·.e)) 1099511627776) M w7 (S5.out.below entKind_ok b7.out) (by omega) HC.out NE.out rfl hM)
              clear hX hXe hb7 V6
              go_wp2_with fail
              refine V7.out.mono ?_
              rintro e w8 ⟨ya, yc, ys, rfl, hY, hYe, hb8⟩
              have b8 := keep (b7.out.trans (hb8.mono b7.out.size))
              have SA := keep (same_yes xa M xc xs ya yc ys w8 (by omega) (X7.out.below entKind_ok hb8) hY (by rw [XE.out, hYe]))
              clear hY hYe hb8 V7
              go_wp2_with fail
              refine SA.out.mono ?_
              rintro e w9 ⟨rfl, hb9⟩
              have b9 := keep (b8.out.trans (hb9.mono b8.out.size))
              have PR := keep (prune_any ka i kc ks p N C zs bottom w9 (K5.out.below entKind_ok b9.out) (Z5.out.below inK_ok b9.out) (by omega) (by omega) KC.out NK.out)
              clear hb9 SA hM
              go_wp2_with fail
              refine PR.out.mono ?_
              rintro e w10 ⟨v10, qs, rfl, hE, hV, hb⟩
              have ql : qs.length = i := by
                have h1 := congrArg List.length hV
                rw [KV.out, Mg.prune_twice bottom _ _ (Nat.le_refl _) UP.out, ← KV.out, List.length_map, List.length_map, HQ.out] at h1
                exact h1
              obtain ⟨qa, qc, rfl, _, _⟩ := hE.src
              rw [ql]
              have b10 := keep (b9.out.trans (hb.mono b9.out.size))
              clear hE hV hb PR ql
              go_wp2
              go_ret
              exact ⟨rfl, B3.out.trans ((b4.out.trans ((hB.out.trans (b10.out.mono hB.out.size)).mono b4.out.size)).mono B3.out.size)⟩
end Go.Proofs.Ytimgdhdfefldpaa
