/- The walk of awake of stage 9. -/
import Derived.Test.YtjblicgbdecbcaaGreatZQp
import Derived.Test.YtjblicgbdecbcaaGreatZJc
import Derived.Test.YtjblicgbdecbcaaGreatZQdj
namespace Go.Proofs.YtjblicgbdecbcaaGreat
open Go.RowKit
open Sk (Ent)

theorem wrap_u8 (x : Int) (h0 : 0 ≤ x) (h1 : x < 256) : IntKind.u8.wrap x = x := by
  simp [IntKind.wrap, IntKind.bits, IntKind.signed]
  omega
def awE (i : Nat) : Ent := ⟨[UInt8.ofNat (97 + i)], i, false, [118]⟩
def awL (k : Nat) : List Ent := (List.range k).map awE
theorem awL_succ (k : Nat) : awL (k + 1) = awL k ++ [awE k] := by simp [awL, List.range_succ]
theorem awL_ok : Tq.tok (awL 9) = true := by decide +kernel
theorem awL_ver : verE (awL 9) [105] 9 = some (awE 8) := rfl
theorem awL_small : ∀ e ∈ awL 9, e.key.length ≤ 64 ∧ e.val.length ≤ 64 := by decide +kernel
theorem awL_tab : ∃ t, Tq.tab (awL 9) = [83, 87, 84, 49, 2] ++ t := by
  refine ⟨Tq.blksB (awL 9) 2 ++ Tq.txtB (Tq.filt (awL 9)) ++ be 4 (crc (Tq.traw (awL 9))).toNat, ?_⟩
  have h1 : Tq.cnt (awL 9).length = 2 := rfl
  have h2 : num 2 = [2] := by decide
  unfold Tq.tab
  conv => lhs; arg 1; unfold Tq.traw
  rw [h1, h2]
  simp only [Tq.swt, List.append_assoc, List.cons_append, List.nil_append]
/-- The entries of the first k rounds. -/
def AwI (w : World) (k : Nat) (ys : List EV) (v : Value) (wr : World) : Prop := RowT w.heap.size wr v ys ∧ ys.map (·.e) = awL k ∧ Below w.heap.size w wr
theorem AwI.len {w : World} {k : Nat} {ys : List EV} {v : Value} {wr : World} (h : AwI w k ys v wr) : ys.length = k := by
  have := congrArg List.length h.2.1
  simpa [awL] using this
theorem info_partsE {P : Program} {t : TypeId} {z : Value} {s b : Nat} (h : (P.info? t).map (fun i => (i.zero, i.size, i.bytes)) = some (some z, s, b)) : ∃ i, P.info? t = some i ∧ i.zero = some z ∧ i.size = s ∧ i.bytes = b := by
  cases hi : P.info? t with
  | none => rw [hi] at h; cases h
  | some i =>
    rw [hi] at h
    simp only [Option.map_some, Option.some.injEq, Prod.mk.injEq] at h
    exact ⟨i, rfl, h⟩
theorem infoAw : (Tryz.prog.info? 37).map (fun i => (i.zero, i.size, i.bytes)) = some (some (.agg #[.slice none 0 0, .int .i64 0, .bool false, .slice none 0 0]), 4, 64) := by kernel_rfl
set_option maxHeartbeats 4000000 in
set_option maxRecDepth 100000 in
theorem awake_any (w : World) : Calls Tryz.prog 5 #[] w fun e w' => e = .returned (.bool true) ∧ Below w.heap.size w w' := by
  have kc := conv_constS
  obtain ⟨i0, hi0, hz0, hz1, hz2⟩ := info_partsE infoAw
  go_enter Tryz.func5, Tryz.ntmps5
  go_wp2
  go_loopw [1, 2] (fun v i wr => ∃ (k : Nat) (ys : List EV), k ≤ 9 ∧ i = .int .i64 (k : Int) ∧ Hid (AwI w k ys v wr)) (fun _ i _ => 9 - (intOf i).toNat)
  case atStart => exact ⟨0, [], by decide, rfl, ⟨World.ownsRow_nil _ _ _ _, (fun y h => by cases h)⟩, rfl, Below.refl _ _⟩
  case round =>
    obtain ⟨k, ys, hk, rfl, hI⟩ := hrel
    by_cases hk9 : k < 9
    · have ll : (k : Int) < 9 := by omega
      have sw : IntKind.i64.wrap (97 + (k : Int)) = 97 + (k : Int) := wrap_small _ (by omega) (by omega)
      have s8 : IntKind.u8.wrap (97 + (k : Int)) = 97 + (k : Int) := wrap_u8 _ (by omega) (by omega)
      have hyl : ys.length ≤ 9 := by have := hI.out.len; omega
      obtain ⟨W1, hW1⟩ : ∃ W1, wr.alloc (.cells #[.int .u8 (97 + (k : Int))] 5) = W1 := ⟨_, rfl⟩
      have b1 : Hid (Below wr.heap.size wr W1) := by rw [← hW1]; exact (Below.refl _ _).alloc (Nat.le_refl _) _
      have g1 : Hid (W1.heap[wr.heap.size]? = some (.cells #[.int .u8 (97 + (k : Int))] 5)) := by rw [← hW1]; exact heap_alloc_new wr _
      obtain ⟨W2, hW2⟩ : ∃ W2, W1.alloc (.cells #[.int .u8 118] 5 (1, 2)) = W2 := ⟨_, rfl⟩
      have b2 : Hid (Below W1.heap.size W1 W2) := by rw [← hW2]; exact (Below.refl _ _).alloc (Nat.le_refl _) _
      have g2 : Hid (W2.heap[W1.heap.size]? = some (.cells #[.int .u8 118] 5 (1, 2))) := by rw [← hW2]; exact heap_alloc_new W1 _
      have S2 : Hid (Src W2 (some ⟨W1.heap.size, 0, none⟩) 1 1 [118]) := by rw [← hW2]; exact Src.builtS W1 118
      have S1 : Hid (Src W1 (some ⟨wr.heap.size, 0, none⟩) 1 1 [UInt8.ofNat (97 + k)]) := Src.mk_bytes rfl (Nat.le_refl _) (fun i hi => by
        obtain rfl : i = 0 := by omega
        rw [cell_of_row _ _ _ _ _ _ g1.out]
        have e : (UInt8.ofNat (97 + k)).toNat = 97 + k := by rw [UInt8.toNat_ofNat']; omega
        show some (Value.int .u8 (97 + (k : Int))) = some (Value.int .u8 ((UInt8.ofNat (97 + k)).toNat : Int))
        rw [e]
        simp)
      have HY : Hid (HeldT W2 ⟨some ⟨wr.heap.size, 0, none⟩, 1, some ⟨W1.heap.size, 0, none⟩, 1, awE k⟩) :=
        ⟨⟨S1.out.below b2.out, S2.out⟩, fun ad had => by cases had; exact ⟨_, _, (b2.out.block _ (Array.getElem?_eq_some_iff.1 g1.out).1).trans g1.out⟩, fun ad had => by cases had; exact ⟨_, _, g2.out⟩⟩
      have B2 := keep (b1.out.trans (b2.out.mono b1.out.size))
      have b3 := keep (B2.out.alloc B2.out.size (.cells #[.slice (some ⟨wr.heap.size, 0, none⟩) 1 1, .int .i64 (k : Int), .bool false, .slice (some ⟨W1.heap.size, 0, none⟩) 1 1] 37))
      have R3 := keep (hI.out.1.below b3.out)
      have rc := keep (rec_cells (k := entKind) W2 37 (⟨some ⟨wr.heap.size, 0, none⟩, 1, some ⟨W1.heap.size, 0, none⟩, 1, awE k⟩ : EV))
      have BW := keep (hI.out.2.2.trans (b3.out.mono hI.out.2.2.size))
      go_wp2_with (at_builtin; go_loud (refine wpList_append_rec entKind_ok rfl _ _ 22 37 rfl w.heap.size i0 _ 64 Tryz.underlying22 hi0 hz0 hz1 hz2 rfl _ ys.length ys rfl R3.out.row _ 1 (⟨some ⟨wr.heap.size, 0, none⟩, 1, some ⟨W1.heap.size, 0, none⟩, 1, awE k⟩ : EV) rfl rc.out (by unfold maxLen; omega) (by omega) BW.out.size ?_); intro v5 w5 ho5 hg5; have HO5 := keep ho5; have HG5 := keep hg5; have BL5 := keep (BW.out.grown hg5 BW.out.size (fun j hj => (R3.out.row.lt j hj).1)); clear ho5 hg5)
      have R5 := keep (R3.out.more (HY.out.turn (T5.of_below ((Below.refl _ _).alloc (Nat.le_refl _) _))) HO5.out HG5.out)
      go_roundw
      case rel => exact ⟨k + 1, ys ++ [⟨some ⟨wr.heap.size, 0, none⟩, 1, some ⟨W1.heap.size, 0, none⟩, 1, awE k⟩], by omega, by go_num, R5.out, by rw [List.map_append, hI.out.2.1, awL_succ]; rfl, BL5.out⟩
      case measure => simp [intOf]; omega
    · obtain rfl : k = 9 := by omega
      have ll : ¬ (9 : Int) < 9 := by omega
      have hl := hI.out.len
      obtain ⟨a1, c1, rfl, r1⟩ := hI.out.1.src
      rw [hl] at r1 ⊢
      have BB := keep (tbuild_any a1 9 c1 ys wr r1 (fun y hy => by
        have h1 : y.e ∈ awL 9 := by rw [← hI.out.2.1]; exact List.mem_map_of_mem hy
        have := awL_small _ h1
        omega))
      rw [hI.out.2.1] at BB
      have BW := keep hI.out.2.2
      clear r1 hl
      go_wp2_with fail
      refine BB.out.mono ?_
      rintro e w2 (⟨_, a2, k2, rfl, ho2, hb2⟩ | ⟨hok, _, _⟩)
      · have B2 := keep (BW.out.trans (hb2.mono BW.out.size))
        obtain ⟨t, ht⟩ := awL_tab
        have hnb : (Tq.tab (awL 9)).length = t.length + 5 := by rw [ht]; simp
        have hlen := Tq.tab_len awL_ok
        have f4 : fn (Tq.tab (awL 9)) 4 = 2 := by rw [ht]; rfl
        rw [hnb] at ho2 hlen ⊢
        obtain ⟨nb, hnb2⟩ : ∃ nb, t.length + 4 = nb := ⟨_, rfl⟩
        rw [show t.length + 5 = nb + 1 by omega] at ho2 hlen ⊢
        obtain ⟨g2, cap2, e2⟩ := own_form ho2
        cases e2
        obtain ⟨_, _, e3, hs2, _⟩ := Src.of_own ho2
        cases e3
        have S2 := keep hs2
        have PA := keep (tparse_any _ _ _ _ w2 (by omega) hs2)
        have c4 : Hid (∀ w', Below w2.heap.size w2 w' → w'.cell? ⟨g2, 4, none⟩ = some (.int .u8 2)) := fun w' hb => by
          have := (hs2.below hb).cells _ rfl 4 _ (bv_at _ 4 (by rw [hnb]; omega))
          rw [Addr.add_mid, Nat.zero_add, f4] at this
          exact this
        have n1 : ¬ ((nb + 1 : Nat) : Int) < 5 := by omega
        have n2 : (4 : Int) < ((nb + 1 : Nat) : Int) := by omega
        have n3 : ¬ (nb : Int) + 1 < 5 := by omega
        have n4 : (4 : Int) < (nb : Int) + 1 := by omega
        clear ho2 hs2 hb2 BB hlen hnb hnb2 f4 hI
        go_wp2_with fail
        refine PA.out.mono ?_
        intro e w3 hP
        rcases hP.cases with ⟨L, tb, ds, hp, rfl, hD, hb3⟩ | ⟨hno, _, _⟩
        · have hL : L = awL 9 := by
            rw [Tq.tparse_tab awL_ok] at hp
            cases hp
            rfl
          rw [hL] at hD
          have B3 := keep (B2.out.trans (hb3.mono B2.out.size))
          have q4 := c4.out w3 hb3
          obtain ⟨W4, hW4⟩ : ∃ W4, w3.alloc (.cells #[.int .u8 105] 5 (1, 2)) = W4 := ⟨_, rfl⟩
          have b4 : Hid (Below w3.heap.size w3 W4) := by rw [← hW4]; exact (Below.refl _ _).alloc (Nat.le_refl _) _
          have B4 := keep (B3.out.trans (b4.out.mono B3.out.size))
          have D4 := keep (hD.below b4.out)
          have K4 : Hid (Src W4 (some ⟨w3.heap.size, 0, none⟩) 1 1 [105]) := by rw [← hW4]; exact Src.builtS w3 105
          have GE := keep (get_tab D4.out (some ⟨w3.heap.size, 0, none⟩) 1 [105] 9 (by decide) K4.out (Below.refl _ _))
          rw [awL_ver] at GE
          simp only [Option.isSome_some, Option.getD_some] at GE
          clear hP hp hL hD hb3 PA c4
          go_wp2_with fail
          refine GE.out.mono ?_
          rintro e w5 ⟨y, rfl, hye, hyo, hb5⟩
          have B5 := keep (B4.out.trans (hb5.mono B4.out.size))
          have D5 := keep (D4.out.below hb5)
          obtain ⟨ykp, ykc, yvp, yvc, ye⟩ := y
          simp only at hye
          subst hye
          unfold ev awE
          simp only
          obtain ⟨W6, hW6⟩ : ∃ W6, w5.alloc (.cells #[.slice ykp 1 ykc, .int .i64 8, .bool false, .slice yvp 1 yvc] 37) = W6 := ⟨_, rfl⟩
          have b6 : Hid (Below w5.heap.size w5 W6) := by rw [← hW6]; exact (Below.refl _ _).alloc (Nat.le_refl _) _
          have g6 : W6.cell? ⟨w5.heap.size, 1, none⟩ = some (.int .i64 8) := by rw [← hW6]; exact cell_of_row _ _ _ _ _ _ (heap_alloc_new w5 _)
          have B6 := keep (B5.out.trans (b6.out.mono B5.out.size))
          have D6 := keep (D5.out.below b6.out)
          have h9 : (evsD ds).length = 9 := by rw [D6.out.evs_len]; rfl
          have CO := keep (count_done tb ds _ W6 D6.out.done D6.out.few (fun d hd => (D6.out.small d hd).1) (by omega))
          rw [h9] at CO
          have FI : Hid (∀ w', Below W6.heap.size W6 w' → Calls Tryz.prog 21 #[.pointer (some ⟨tb, 0, none⟩)] w' fun e w'' => ∃ a k, e = .returned (.slice a 1 k) ∧ Src w'' a 1 k [97] ∧ Below W6.heap.size W6 w'') := fun w' hb => by
            have D7 := D6.out.below hb
            obtain ⟨d, ds', y, ys', e1, e2, e3⟩ := D7.first
            subst e1
            have h1 : y.e = awE 0 := by
              have h2 : (awL 9)[0]? = some (awE 0) := rfl
              rw [h2] at e3
              exact (Option.some.inj e3).symm
            have hf := D7.few
            have hs := D7.small d (List.mem_cons_self ..)
            rw [e2] at hs
            simp only [List.length_cons] at hf hs
            refine (first_done tb d ds' _ y ys' w' D7.done e2 (by omega) (by omega) (by rw [h1]; decide)).mono ?_
            rintro e w'' ⟨v, rfl, hN⟩
            rw [h1] at hN
            obtain ⟨a, k, rfl, hs, _⟩ := Src.of_own hN.1
            exact ⟨a, k, rfl, hs, hb.trans (hN.2.mono hb.size)⟩
          have LA : Hid (∀ w', Below W6.heap.size W6 w' → Calls Tryz.prog 22 #[.pointer (some ⟨tb, 0, none⟩)] w' fun e w'' => ∃ a k, e = .returned (.slice a 1 k) ∧ Src w'' a 1 k [105] ∧ Below W6.heap.size W6 w'') := fun w' hb => by
            have D7 := D6.out.below hb
            obtain ⟨m, q, d, y, hm, hd, hq, hy, e3⟩ := D7.last
            have h1 : y.e = awE 8 := by
              have h2 : (awL 9)[(awL 9).length - 1]? = some (awE 8) := rfl
              rw [h2] at e3
              exact (Option.some.inj e3).symm
            have hf := D7.few
            have hs := D7.small d (List.mem_of_getElem? hd)
            refine (last_done tb m q d ds _ y w' D7.done hd hm hy hq (by omega) (by omega) (by rw [h1]; decide)).mono ?_
            rintro e w'' ⟨v, rfl, hN⟩
            rw [h1] at hN
            obtain ⟨a, k, rfl, hs, _⟩ := Src.of_own hN.1
            exact ⟨a, k, rfl, hs, hb.trans (hN.2.mono hb.size)⟩
          clear hyo hb5 GE hW4 kc q4 h9
          go_wp2_with fail
          refine CO.out.mono ?_
          rintro e w7 ⟨rfl, hb7⟩
          have B7 := keep hb7
          clear hb7 CO hW6
          go_wp2_with fail
          refine (FI.out _ B7.out).mono ?_
          rintro e w8 ⟨a8, k8, rfl, hs8, hb8⟩
          have B8 := keep hb8
          have cv8 := conv_src hs8
          clear hs8 hb8
          go_wp2_with fail
          refine (LA.out _ B8.out).mono ?_
          rintro e w9 ⟨a9, k9, rfl, hs9, hb9⟩
          have B9 := keep hb9
          have cv9 := conv_src hs9
          clear hs9 hb9 cv8
          go_wp2
          go_ret
          exact ⟨rfl, B6.out.trans (B9.out.mono B6.out.size)⟩
        · rw [Tq.tparse_tab awL_ok] at hno; cases hno
      · rw [awL_ok] at hok; cases hok
end Go.Proofs.YtjblicgbdecbcaaGreat
