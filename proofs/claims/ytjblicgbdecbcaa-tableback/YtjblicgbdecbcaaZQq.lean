/- The walk of TableBack. -/
import Derived.Test.YtjblicgbdecbcaaZQm
import Derived.Test.YtjblicgbdecbcaaZQp
import Derived.Test.YtjblicgbdecbcaaZQe
import Derived.Test.YtjblicgbdecbcaaZJ2j
namespace Go.Proofs.Ytjblicgbdecbcaa
open Go.RowKit
open Sk (Ent)

theorem tok_small {L : List Ent} (h : Tq.tok L = true) {e : Ent} (he : e ∈ L) : e.key.length ≤ 64 ∧ e.val.length ≤ 1024 := by
  have := Bq.may_bounds (Tq.tok_may h e he)
  exact ⟨this.2.1, this.2.2.2.2⟩
theorem first_tab {w : World} {tb : Nat} {ds : List DE} {L : List Ent} (h : TabD w tb ds L) {e : Ent} (he : L[0]? = some e) :
    Calls Try.prog 14 #[.pointer (some ⟨tb, 0, none⟩)] w fun r w' => ∃ a k, r = .returned (.slice a e.key.length k) ∧ Src w' a e.key.length k e.key ∧ Below w.heap.size w w' := by
  obtain ⟨d, ds', y, ys', e1, e2, e3⟩ := h.first
  subst e1
  have h1 : y.e = e := by rw [he] at e3; exact (Option.some.inj e3).symm
  have hf := h.few
  have hs := h.small d (List.mem_cons_self ..)
  rw [e2] at hs
  have hk := (hs.2 y (List.mem_cons_self ..)).1
  simp only [List.length_cons] at hf hs
  refine (first_done tb d ds' _ y ys' w h.done e2 (by omega) (by omega) (by omega)).mono ?_
  rintro e' w'' ⟨v, rfl, hN⟩
  rw [h1] at hN
  obtain ⟨a, k, rfl, hs, _⟩ := Src.of_own hN.1
  exact ⟨a, k, rfl, hs, hN.2⟩
theorem last_tab {w : World} {tb : Nat} {ds : List DE} {L : List Ent} (h : TabD w tb ds L) {e : Ent} (he : L[L.length - 1]? = some e) :
    Calls Try.prog 15 #[.pointer (some ⟨tb, 0, none⟩)] w fun r w' => ∃ a k, r = .returned (.slice a e.key.length k) ∧ Src w' a e.key.length k e.key ∧ Below w.heap.size w w' := by
  obtain ⟨m, q, d, y, hm, hd, hq, hy, e3⟩ := h.last
  have h1 : y.e = e := by rw [he] at e3; exact (Option.some.inj e3).symm
  have hf := h.few
  have hs := h.small d (List.mem_of_getElem? hd)
  have hk := (hs.2 y (List.mem_of_getElem? hy)).1
  refine (last_done tb m q d ds _ y w h.done hd hm hy hq (by omega) (by omega) (by omega)).mono ?_
  rintro e' w'' ⟨v, rfl, hN⟩
  rw [h1] at hN
  obtain ⟨a, k, rfl, hs, _⟩ := Src.of_own hN.1
  exact ⟨a, k, rfl, hs, hN.2⟩
/-- What holds while the bytes of an answer are turned. -/
def TurnI (wr : World) (g : Nat) (row : Array Value) (kp : Option Addr) (m kc : Nat) (W : World) : Prop :=
  Below wr.heap.size wr W ∧ W.heap[g]? = some (.cells row 32) ∧ ∃ l, W.ownsRow wr.heap.size 5 1 (.slice kp m kc) m (bv l)
set_option maxHeartbeats 8000000 in
set_option maxRecDepth 100000 in
theorem back_walk (ao : Option Addr) (n c : Nat) (es : List EV) (w : World) (hsrc : RSrc entKind w ao n c es) (hMAY : ∀ y ∈ es, y.e.key.length ≤ 9223372036854775807 ∧ y.e.val.length ≤ 9223372036854775807) :
    Calls Try.prog 3 #[.slice ao n c] w fun e w' => e = .returned (.bool true) ∧ Below w.heap.size w w' := by
  have SRC := keep hsrc
  have MAY := keep hMAY
  have HL : Hid (es.length = n) := hsrc.len
  have AW := keep (awake_any w)
  clear hsrc hMAY
  go_enter Try.func3, Try.ntmps3
  go_wp2_with fail
  refine AW.out.mono ?_
  rintro e w1 ⟨rfl, hb1⟩
  have B1 := keep hb1
  have BU := keep (tbuild_any ao n c es w1 (SRC.out.below entKind_ok hb1) MAY.out)
  clear hb1 AW
  go_wp2_with fail
  refine BU.out.mono ?_
  rintro e w2 (⟨hok, a2, k2, rfl, ho2, hb2⟩ | ⟨hok, rfl, hb2⟩)
  · have B2 := keep (B1.out.trans (hb2.mono B1.out.size))
    have OK := keep hok
    obtain ⟨_, _, e3, hs2, _⟩ := Src.of_own ho2
    cases e3
    have PA := keep (tparse_any a2 _ k2 _ w2 (Nat.le_trans (Tq.tab_len hok) (by decide)) hs2)
    have PS := keep (Tq.tparse_tab hok)
    obtain ⟨L, hL⟩ : ∃ L, es.map (·.e) = L := ⟨_, rfl⟩
    have HLL := keep hL
    rw [hL] at OK PA PS ⊢
    have hn64 := (Tq.tok_len OK.out).2
    have hn1 := (Tq.tok_len OK.out).1
    have hnL : L.length = n := by rw [← hL, List.length_map]; exact HL.out
    have HNL := keep hnL
    rw [hnL] at hn64 hn1
    clear hL hok hb2 BU ho2 hs2 hnL
    obtain ⟨nb, hnb⟩ : ∃ nb, (Tq.tab L).length = nb := ⟨_, rfl⟩
    rw [hnb] at PA ⊢
    clear hnb
    go_wp2_with fail
    refine PA.out.mono ?_
    intro e w3 hP
    rcases hP.cases with ⟨L', tb, ds, hp, rfl, hD, hb3⟩ | ⟨hno, _, _⟩
    · obtain rfl : L' = L := by
        have h1 := PS.out
        rw [hp] at h1
        cases h1
        rfl
      have D3 := keep hD
      have B3 := keep (B2.out.trans (hb3.mono B2.out.size))
      clear hP hp hD hb3 PA
      obtain ⟨b, off, rfl, _, _⟩ := SRC.out.form entKind_ok (by omega)
      go_wp2
      go_loopw [8] (fun i wr => ∃ q : Nat, q ≤ n ∧ i = .int .i64 (q : Int) ∧ Hid (Below w3.heap.size w3 wr)) (fun i _ => n - (intOf i).toNat)
      case atStart => exact ⟨0, Nat.zero_le _, rfl, Below.refl _ _⟩
      case round =>
        obtain ⟨q, hq, rfl, hB⟩ := hrel
        have D4 := keep (D3.out.below hB.out)
        have BW := keep (B3.out.trans (hB.out.mono B3.out.size))
        by_cases hqn : q < n
        · obtain ⟨x, hx⟩ : ∃ x, es[q]? = some x := ⟨es[q]'(by rw [HL.out]; exact hqn), List.getElem?_eq_getElem _⟩
          have hxe : Hid (L'[q]? = some x.e) := by show _ = _; rw [← HLL.out, List.getElem?_map, hx]; rfl
          have hxs := tok_small OK.out (List.mem_of_getElem? hxe.out)
          have CX : Hid (∀ w', Below wr.heap.size wr w' → w'.cell? ⟨b, off + q * 4, none⟩ = some (.slice x.kp x.e.key.length x.kc) ∧ w'.cell? ⟨b, off + q * 4 + 1, none⟩ = some (.int .i64 x.e.seq) ∧ w'.cell? ⟨b, off + q * 4 + 2, none⟩ = some (.bool x.e.gone) ∧ w'.cell? ⟨b, off + q * 4 + 3, none⟩ = some (.slice x.vp x.e.val.length x.vc)) := fun w' hb => ent_cells (SRC.out.below entKind_ok (BW.out.trans (hb.mono BW.out.size))) hx
          have HX : Hid (∀ w', Below wr.heap.size wr w' → entKind.held w' x) := fun w' hb => (SRC.out.below entKind_ok (BW.out.trans (hb.mono BW.out.size))).held x (List.mem_of_getElem? hx)
          have GE : Hid (∀ w', Below wr.heap.size wr w' → _) := fun w' hb => get_tab D4.out x.kp x.kc x.e.key x.e.seq (by omega) (HX.out wr (Below.refl _ _)).1 hb
          have own := ver_at OK.out hxe.out
          rw [own] at GE
          simp only [Option.isSome_some, Option.getD_some] at GE
          clear own hx
          have ll : (q : Int) < (n : Int) := by omega
          have ll0 : (0 : Int) ≤ (q : Int) := by omega
          obtain ⟨xkp, xkc, xvp, xvc, ⟨xkey, xseq, xgone, xval⟩⟩ := x
          simp only at CX GE hxs
          go_wp2_with fail
          refine region_share (fun a a' w' => ∃ (g : Nat) (ykp : Option Addr) (ykc : Nat) (yvp : Option Addr) (yvc : Nat) (ykey : List UInt8) (yseq : Int) (ygone : Bool) (yval : List UInt8), a' = sets a [(52, .pointer (some ⟨tb, 0, none⟩)), (53, .slice (some ⟨b, off, none⟩) n c), (54, .int .i64 (q : Int)), (55, .pointer (some ⟨b, off + q * 4, none⟩)), (56, .pointer (some ⟨b, off + q * 4, none⟩)), (57, .slice xkp xkey.length xkc), (58, .slice (some ⟨b, off, none⟩) n c), (59, .int .i64 (q : Int)), (60, .pointer (some ⟨b, off + q * 4, none⟩)), (61, .pointer (some ⟨b, off + q * 4 + 1, none⟩)), (62, .int .i64 xseq), (51, .tuple #[.agg #[.slice ykp ykey.length ykc, .int .i64 yseq, .bool ygone, .slice yvp yval.length yvc], .bool true]), (64, .agg #[.slice ykp ykey.length ykc, .int .i64 yseq, .bool ygone, .slice yvp yval.length yvc]), (65, .bool true), (10, .bool true), (63, .tuple #[.agg #[.slice ykp ykey.length ykc, .int .i64 yseq, .bool ygone, .slice yvp yval.length yvc], .bool true]), (9, .pointer (some ⟨g, 0, none⟩))] ∧ GotE wr ⟨xkey, xseq, xgone, xval⟩ g ⟨ykp, ykc, yvp, yvc, ⟨ykey, yseq, ygone, yval⟩⟩ w') ?_ ?_
          · refine wp_region_held_drew (S := fun w' => Below wr.heap.size wr w') (by kernel_rfl) ((Below.refl _ _).drew) (fun hHeld => ?_)
            refine takeH (i := 0) 52 (v := .pointer (some ⟨tb, 0, none⟩)) rfl rfl (by kernel_rfl) (by kernel_rfl) (by kernel_rfl) (fun _ _ _ h => h) (Or.inl ⟨by rfl, ?_⟩) (by assumption) ?_
            · intro w' hSw'
              go_simp
            simp only [Act.put, List.setIfInBounds_toArray, List.set_cons_zero, List.set_cons_succ]
            refine takeH (i := 1) 53 (v := .slice (some ⟨b, off, none⟩) n c) rfl rfl (by kernel_rfl) (by kernel_rfl) (by kernel_rfl) (fun _ _ _ h => h) (Or.inl ⟨by rfl, ?_⟩) (by assumption) ?_
            · intro w' hSw'
              go_simp
            simp only [Act.put, List.setIfInBounds_toArray, List.set_cons_zero, List.set_cons_succ]
            refine takeH (i := 2) 54 (v := .int .i64 (q : Int)) rfl rfl (by kernel_rfl) (by kernel_rfl) (by kernel_rfl) (fun _ _ _ h => h) (Or.inl ⟨by rfl, ?_⟩) (by assumption) ?_
            · intro w' hSw'
              go_simp
            simp only [Act.put, List.setIfInBounds_toArray, List.set_cons_zero, List.set_cons_succ]
            refine takeH (i := 3) 55 (v := .pointer (some ⟨b, off + q * 4, none⟩)) rfl rfl (by kernel_rfl) (by kernel_rfl) (by kernel_rfl) (fun _ _ _ h => h) (Or.inl ⟨by rfl, ?_⟩) (by assumption) ?_
            · intro w' hSw'
              go_simp
            simp only [Act.put, List.setIfInBounds_toArray, List.set_cons_zero, List.set_cons_succ]
            refine takeH (i := 4) 56 (v := .pointer (some ⟨b, off + q * 4, none⟩)) rfl rfl (by kernel_rfl) (by kernel_rfl) (by kernel_rfl) (fun _ _ _ h => h) (Or.inl ⟨by rfl, ?_⟩) (by assumption) ?_
            · intro w' hSw'
              go_simp
            simp only [Act.put, List.setIfInBounds_toArray, List.set_cons_zero, List.set_cons_succ]
            refine takeH (i := 5) 57 (v := .slice xkp xkey.length xkc) rfl rfl (by kernel_rfl) (by kernel_rfl) (by kernel_rfl) (fun _ _ _ h => h) (Or.inl ⟨by rfl, ?_⟩) (by assumption) ?_
            · intro w' hSw'
              obtain ⟨d0, d1, d2, d3⟩ := CX.out w' (hSw')
              go_simp
            simp only [Act.put, List.setIfInBounds_toArray, List.set_cons_zero, List.set_cons_succ]
            refine takeH (i := 6) 58 (v := .slice (some ⟨b, off, none⟩) n c) rfl rfl (by kernel_rfl) (by kernel_rfl) (by kernel_rfl) (fun _ _ _ h => h) (Or.inl ⟨by rfl, ?_⟩) (by assumption) ?_
            · intro w' hSw'
              go_simp
            simp only [Act.put, List.setIfInBounds_toArray, List.set_cons_zero, List.set_cons_succ]
            refine takeH (i := 7) 59 (v := .int .i64 (q : Int)) rfl rfl (by kernel_rfl) (by kernel_rfl) (by kernel_rfl) (fun _ _ _ h => h) (Or.inl ⟨by rfl, ?_⟩) (by assumption) ?_
            · intro w' hSw'
              go_simp
            simp only [Act.put, List.setIfInBounds_toArray, List.set_cons_zero, List.set_cons_succ]
            refine takeH (i := 8) 60 (v := .pointer (some ⟨b, off + q * 4, none⟩)) rfl rfl (by kernel_rfl) (by kernel_rfl) (by kernel_rfl) (fun _ _ _ h => h) (Or.inl ⟨by rfl, ?_⟩) (by assumption) ?_
            · intro w' hSw'
              go_simp
            simp only [Act.put, List.setIfInBounds_toArray, List.set_cons_zero, List.set_cons_succ]
            refine takeH (i := 9) 61 (v := .pointer (some ⟨b, off + q * 4 + 1, none⟩)) rfl rfl (by kernel_rfl) (by kernel_rfl) (by kernel_rfl) (fun _ _ _ h => h) (Or.inl ⟨by rfl, ?_⟩) (by assumption) ?_
            · intro w' hSw'
              go_simp
            simp only [Act.put, List.setIfInBounds_toArray, List.set_cons_zero, List.set_cons_succ]
            refine takeH (i := 10) 62 (v := .int .i64 xseq) rfl rfl (by kernel_rfl) (by kernel_rfl) (by kernel_rfl) (fun _ _ _ h => h) (Or.inl ⟨by rfl, ?_⟩) (by assumption) ?_
            · intro w' hSw'
              obtain ⟨d0, d1, d2, d3⟩ := CX.out w' (hSw')
              go_simp
            simp only [Act.put, List.setIfInBounds_toArray, List.set_cons_zero, List.set_cons_succ]
            refine wpAnyH_ready (rs := [11, 15]) (by kernel_rfl) (by simp) ?_
            refine AllReadyH.cons rfl (fun K hK => ?_) (AllReadyH.cons rfl (fun K hK => ?_) AllReadyH.nil)
            · go_simp
              refine (GE.out _ ((Below.refl _ _).drew)).mono ?_
              rintro e w5 ⟨y, rfl, hy, hyh, hb5⟩
              have HY := keep hy
              have YH := keep hyh
              obtain ⟨ykp, ykc, yvp, yvc, ⟨ykey, yseq, ygone, yval⟩⟩ := y
              unfold ev
              simp only
              have b5 : Hid (Below wr.heap.size wr w5) := ((Below.refl _ _).drew).trans (hb5.mono (Nat.le_refl _))
              clear hy hyh hb5
              go_wp2_with fail
              refine hK.out _ _ (b5.out) (fun hA1 => ?_)
              clear hK K
              refine takeH (i := 12) 51 (v := .tuple #[.agg #[.slice ykp ykey.length ykc, .int .i64 yseq, .bool ygone, .slice yvp yval.length yvc], .bool true]) rfl rfl (by kernel_rfl) (by kernel_rfl) (by kernel_rfl) (fun _ _ _ h => h) (Or.inl ⟨by rfl, ?_⟩) (by assumption) ?_
              · intro w' hSw'
                go_simp
              simp only [Act.put, List.setIfInBounds_toArray, List.set_cons_zero, List.set_cons_succ]
              refine takeH (i := 13) 64 (v := .agg #[.slice ykp ykey.length ykc, .int .i64 yseq, .bool ygone, .slice yvp yval.length yvc]) rfl rfl (by kernel_rfl) (by kernel_rfl) (by kernel_rfl) (fun _ _ _ h => h) (Or.inl ⟨by rfl, ?_⟩) (by assumption) ?_
              · intro w' hSw'
                go_simp
              simp only [Act.put, List.setIfInBounds_toArray, List.set_cons_zero, List.set_cons_succ]
              refine takeH (i := 14) 65 (v := .bool true) rfl rfl (by kernel_rfl) (by kernel_rfl) (by kernel_rfl) (fun _ _ _ h => h) (Or.inl ⟨by rfl, ?_⟩) (by assumption) ?_
              · intro w' hSw'
                go_simp
              simp only [Act.put, List.setIfInBounds_toArray, List.set_cons_zero, List.set_cons_succ]
              refine wpAnyH_ready (rs := [15]) (by kernel_rfl) (by simp) ?_
              refine AllReadyH.cons rfl (fun K hK => ?_) AllReadyH.nil
              go_simp
              refine hK.out _ _ (b5.out.alloc b5.out.size _) (fun hA2 => ?_)
              clear hK K
              refine wpAnyH_ready (rs := [16]) (by kernel_rfl) (by simp) ?_
              refine AllReadyH.cons rfl (fun K hK => ?_) AllReadyH.nil
              go_simp
              refine hK.out _ _ (b5.out.alloc b5.out.size _) (fun hA3 => ?_)
              clear hK K
              refine takeH (i := 17) 10 (v := .bool true) rfl rfl (by kernel_rfl) (by kernel_rfl) (by kernel_rfl) (fun _ _ _ h => h) (Or.inl ⟨by rfl, ?_⟩) (by assumption) ?_
              · intro w' hSw'
                go_simp
              simp only [Act.put, List.setIfInBounds_toArray, List.set_cons_zero, List.set_cons_succ]
              refine wpAnyH_done (by kernel_rfl) ?_ _
              exact ⟨_, ykp, ykc, yvp, yvc, ykey, yseq, ygone, yval, (by simp only [sets, Act.put, List.setIfInBounds_toArray, List.set_cons_zero, List.set_cons_succ]; all_goals rfl), got_alloc (y := ⟨ykp, ykc, yvp, yvc, ⟨ykey, yseq, ygone, yval⟩⟩) b5.out HY.out YH.out⟩
            · go_simp
              have bZ : Hid (Below wr.heap.size wr (wr.drew.alloc (.cells #[.slice none 0 0, .int .i64 0, .bool false, .slice none 0 0] 32))) := ((Below.refl _ _).drew).alloc (Nat.le_refl _) _
              refine hK.out _ _ (bZ.out) (fun hA1 => ?_)
              clear hK K
              refine wpAnyH_ready (rs := [11]) (by kernel_rfl) (by simp) ?_
              refine AllReadyH.cons rfl (fun K hK => ?_) AllReadyH.nil
              go_simp
              refine (GE.out _ (bZ.out)).mono ?_
              rintro e w5 ⟨y, rfl, hy, hyh, hb5⟩
              have HY := keep hy
              have YH := keep hyh
              obtain ⟨ykp, ykc, yvp, yvc, ⟨ykey, yseq, ygone, yval⟩⟩ := y
              unfold ev
              simp only
              have b5 : Hid (Below wr.heap.size wr w5) := bZ.out.trans (hb5.mono bZ.out.size)
              have g5 : Hid (w5.heap[wr.heap.size]? = some (.cells #[.slice none 0 0, .int .i64 0, .bool false, .slice none 0 0] 32)) := (hb5.block _ (by simp)).trans (heap_alloc_new wr.drew _)
              clear hy hyh hb5
              go_wp2_with fail
              refine hK.out _ _ (b5.out) (fun hA2 => ?_)
              clear hK K
              refine takeH (i := 12) 51 (v := .tuple #[.agg #[.slice ykp ykey.length ykc, .int .i64 yseq, .bool ygone, .slice yvp yval.length yvc], .bool true]) rfl rfl (by kernel_rfl) (by kernel_rfl) (by kernel_rfl) (fun _ _ _ h => h) (Or.inl ⟨by rfl, ?_⟩) (by assumption) ?_
              · intro w' hSw'
                go_simp
              simp only [Act.put, List.setIfInBounds_toArray, List.set_cons_zero, List.set_cons_succ]
              refine takeH (i := 13) 64 (v := .agg #[.slice ykp ykey.length ykc, .int .i64 yseq, .bool ygone, .slice yvp yval.length yvc]) rfl rfl (by kernel_rfl) (by kernel_rfl) (by kernel_rfl) (fun _ _ _ h => h) (Or.inl ⟨by rfl, ?_⟩) (by assumption) ?_
              · intro w' hSw'
                go_simp
              simp only [Act.put, List.setIfInBounds_toArray, List.set_cons_zero, List.set_cons_succ]
              refine takeH (i := 14) 65 (v := .bool true) rfl rfl (by kernel_rfl) (by kernel_rfl) (by kernel_rfl) (fun _ _ _ h => h) (Or.inl ⟨by rfl, ?_⟩) (by assumption) ?_
              · intro w' hSw'
                go_simp
              simp only [Act.put, List.setIfInBounds_toArray, List.set_cons_zero, List.set_cons_succ]
              refine wpAnyH_ready (rs := [16]) (by kernel_rfl) (by simp) ?_
              refine AllReadyH.cons rfl (fun K hK => ?_) AllReadyH.nil
              have t0 : w5.cell? ⟨wr.heap.size, 0, none⟩ = some (.slice none 0 0) := cell_of_row _ _ _ _ _ _ g5.out
              have f0 : w5.frozen? ⟨wr.heap.size, 0, none⟩ = false := by simp [World.frozen?, g5.out]
              have t1 : w5.cell? ⟨wr.heap.size, 1, none⟩ = some (.int .i64 0) := cell_of_row _ _ _ _ _ _ g5.out
              have f1 : w5.frozen? ⟨wr.heap.size, 1, none⟩ = false := by simp [World.frozen?, g5.out]
              have t2 : w5.cell? ⟨wr.heap.size, 2, none⟩ = some (.bool false) := cell_of_row _ _ _ _ _ _ g5.out
              have f2 : w5.frozen? ⟨wr.heap.size, 2, none⟩ = false := by simp [World.frozen?, g5.out]
              have t3 : w5.cell? ⟨wr.heap.size, 3, none⟩ = some (.slice none 0 0) := cell_of_row _ _ _ _ _ _ g5.out
              have f3 : w5.frozen? ⟨wr.heap.size, 3, none⟩ = false := by simp [World.frozen?, g5.out]
              have GS := keep (got_store (y := ⟨ykp, ykc, yvp, yvc, ⟨ykey, yseq, ygone, yval⟩⟩) g5.out (Nat.le_refl _) b5.out HY.out YH.out)
              go_simp
              refine hK.out _ _ (GS.out.bel) (fun hA3 => ?_)
              clear hK K t0 t1 t2 t3 f0 f1 f2 f3
              refine takeH (i := 17) 10 (v := .bool true) rfl rfl (by kernel_rfl) (by kernel_rfl) (by kernel_rfl) (fun _ _ _ h => h) (Or.inl ⟨by rfl, ?_⟩) (by assumption) ?_
              · intro w' hSw'
                go_simp
              simp only [Act.put, List.setIfInBounds_toArray, List.set_cons_zero, List.set_cons_succ]
              refine wpAnyH_done (by kernel_rfl) ?_ _
              exact ⟨_, ykp, ykc, yvp, yvc, ykey, yseq, ygone, yval, (by simp only [sets, Act.put, List.setIfInBounds_toArray, List.set_cons_zero, List.set_cons_succ]; all_goals rfl), GS.out⟩
          rintro a' w5 ⟨g, ykp, ykc, yvp, yvc, ykey, yseq, ygone, yval, rfl, hG⟩
          have GG := keep hG
          clear hG
          simp only [sets, Act.put, List.setIfInBounds_toArray, List.set_cons_zero, List.set_cons_succ]
          have B6 := keep GG.out.bel
          have HY := keep GG.out.same
          have CY : Hid (∀ w', Below w5.heap.size w5 w' → w'.cell? ⟨g, 0, none⟩ = some (.slice ykp ykey.length ykc) ∧ w'.cell? ⟨g, 1, none⟩ = some (.int .i64 yseq) ∧ w'.cell? ⟨g, 2, none⟩ = some (.bool ygone) ∧ w'.cell? ⟨g, 3, none⟩ = some (.slice yvp yval.length yvc)) := fun w' hb => GG.out.cells hb
          have SO : Hid (∀ w', Below w5.heap.size w5 w' → _) := fun w' hb => sameOne_yes ⟨ykp, ykc, yvp, yvc, ⟨ykey, yseq, ygone, yval⟩⟩ ⟨xkp, xkc, xvp, xvc, ⟨xkey, xseq, xgone, xval⟩⟩ w' (entKind_ok.below GG.out.own.held hb) (HX.out w' (B6.out.trans (hb.mono B6.out.size))) HY.out
          unfold ev at SO
          simp only at SO
          go_wp2_with fail
          refine wp_region_held_drew (S := fun w' => Below w5.heap.size w5 w') (by kernel_rfl) ((Below.refl _ _).drew) (fun hHeld => ?_)
          refine takeH (i := 0) 66 (v := .bool true) rfl rfl (by kernel_rfl) (by kernel_rfl) (by kernel_rfl) (fun _ _ _ h => h) (Or.inl ⟨by rfl, ?_⟩) (by assumption) ?_
          · intro w' hSw'
            go_simp
          simp only [Act.put, List.setIfInBounds_toArray, List.set_cons_zero, List.set_cons_succ]
          refine takeH (i := 1) 67 (v := .bool false) rfl rfl (by kernel_rfl) (by kernel_rfl) (by kernel_rfl) (fun _ _ _ h => h) (Or.inl ⟨by rfl, ?_⟩) (by assumption) ?_
          · intro w' hSw'
            go_simp
          simp only [Act.put, List.setIfInBounds_toArray, List.set_cons_zero, List.set_cons_succ]
          refine takeH (i := 2) 68 (v := .bool false) rfl rfl (by kernel_rfl) (by kernel_rfl) (by kernel_rfl) (fun _ _ _ h => h) (Or.inl ⟨by rfl, ?_⟩) (by assumption) ?_
          · intro w' hSw'
            go_simp
          simp only [Act.put, List.setIfInBounds_toArray, List.set_cons_zero, List.set_cons_succ]
          refine takeH (i := 3) 69 (v := .agg #[.slice ykp ykey.length ykc, .int .i64 yseq, .bool ygone, .slice yvp yval.length yvc]) rfl rfl (by kernel_rfl) (by kernel_rfl) (by kernel_rfl) (fun _ _ _ h => h) (Or.inl ⟨by rfl, ?_⟩) (by assumption) ?_
          · intro w' hSw'
            obtain ⟨d0, d1, d2, d3⟩ := CY.out w' (hSw')
            go_simp
          simp only [Act.put, List.setIfInBounds_toArray, List.set_cons_zero, List.set_cons_succ]
          refine takeH (i := 4) 70 (v := .slice (some ⟨b, off, none⟩) n c) rfl rfl (by kernel_rfl) (by kernel_rfl) (by kernel_rfl) (fun _ _ _ h => h) (Or.inl ⟨by rfl, ?_⟩) (by assumption) ?_
          · intro w' hSw'
            go_simp
          simp only [Act.put, List.setIfInBounds_toArray, List.set_cons_zero, List.set_cons_succ]
          refine takeH (i := 5) 71 (v := .int .i64 (q : Int)) rfl rfl (by kernel_rfl) (by kernel_rfl) (by kernel_rfl) (fun _ _ _ h => h) (Or.inl ⟨by rfl, ?_⟩) (by assumption) ?_
          · intro w' hSw'
            go_simp
          simp only [Act.put, List.setIfInBounds_toArray, List.set_cons_zero, List.set_cons_succ]
          refine takeH (i := 6) 72 (v := .pointer (some ⟨b, off + q * 4, none⟩)) rfl rfl (by kernel_rfl) (by kernel_rfl) (by kernel_rfl) (fun _ _ _ h => h) (Or.inl ⟨by rfl, ?_⟩) (by assumption) ?_
          · intro w' hSw'
            go_simp
          simp only [Act.put, List.setIfInBounds_toArray, List.set_cons_zero, List.set_cons_succ]
          refine takeH (i := 7) 73 (v := .agg #[.slice xkp xkey.length xkc, .int .i64 xseq, .bool xgone, .slice xvp xval.length xvc]) rfl rfl (by kernel_rfl) (by kernel_rfl) (by kernel_rfl) (fun _ _ _ h => h) (Or.inl ⟨by rfl, ?_⟩) (by assumption) ?_
          · intro w' hSw'
            obtain ⟨d0, d1, d2, d3⟩ := CX.out w' (B6.out.trans (hSw'.mono B6.out.size))
            go_simp
          simp only [Act.put, List.setIfInBounds_toArray, List.set_cons_zero, List.set_cons_succ]
          refine wpAnyH_ready (rs := [8]) (by kernel_rfl) (by simp) ?_
          refine AllReadyH.cons rfl (fun K hK => ?_) AllReadyH.nil
          go_simp
          refine (SO.out _ (Below.refl _ _).drew).mono ?_
          rintro e w7 ⟨rfl, hb7⟩
          have b7 : Hid (Below w5.heap.size w5 w7) := ((Below.refl _ _).drew).trans (hb7.mono (Nat.le_refl _))
          have B7 := keep (B6.out.trans (b7.out.mono B6.out.size))
          clear hb7
          go_wp2_with fail
          refine hK.out _ _ (b7.out) (fun hHeld1 => ?_)
          clear hK K
          refine takeH (i := 9) 75 (v := .bool false) rfl rfl (by kernel_rfl) (by kernel_rfl) (by kernel_rfl) (fun _ _ _ h => h) (Or.inl ⟨by rfl, ?_⟩) (by assumption) ?_
          · intro w' hSw'
            go_simp
          simp only [Act.put, List.setIfInBounds_toArray, List.set_cons_zero, List.set_cons_succ]
          refine takeH (i := 10) 76 (v := .bool false) rfl rfl (by kernel_rfl) (by kernel_rfl) (by kernel_rfl) (fun _ _ _ h => h) (Or.inl ⟨by rfl, ?_⟩) (by assumption) ?_
          · intro w' hSw'
            go_simp
          simp only [Act.put, List.setIfInBounds_toArray, List.set_cons_zero, List.set_cons_succ]
          refine wpAnyH_done (by kernel_rfl) ?_ _
          have hyl : ykey.length ≤ 64 := by
            have h1 : (⟨ykey, yseq, ygone, yval⟩ : Ent) = ⟨xkey, xseq, xgone, xval⟩ := HY.out
            cases h1
            omega
          have GR : Hid (TurnI wr g #[.slice ykp ykey.length ykc, .int .i64 yseq, .bool ygone, .slice yvp yval.length yvc] ykp ykey.length ykc w7) :=
            ⟨B7.out, (b7.out.block _ (Array.getElem?_eq_some_iff.1 GG.out.row).1).trans GG.out.row, ykey, (GG.out.own.block b7.out).1⟩
          have HG := keep GG.out.far
          obtain ⟨m, hm⟩ : ∃ m, ykey.length = m := ⟨_, rfl⟩
          rw [hm] at GR hyl
          clear CY SO GG HY B6 b7 hHeld hHeld1 CX GE HX hxs hm
          go_wp2
          obtain ⟨wq, hwq⟩ : ∃ wq, wq = wr := ⟨_, rfl⟩
          subst hwq
          go_loopw [11] (fun j W => ∃ p : Nat, p ≤ m ∧ j = .int .i64 (p : Int) ∧ Hid (TurnI wq g #[.slice ykp m ykc, .int .i64 yseq, .bool ygone, .slice yvp yval.length yvc] ykp m ykc W)) (fun j _ => m - (intOf j).toNat)
          case atStart => exact ⟨0, Nat.zero_le _, rfl, GR.out⟩
          case round =>
            obtain ⟨p, hp, rfl, hI⟩ := hrel
            obtain ⟨hbI, hrI, l, hoI⟩ := hI.out
            have c0 : wr.cell? ⟨g, 0, none⟩ = some (.slice ykp m ykc) := cell_of_row _ _ _ _ _ _ hrI
            have BI := keep hbI
            have RI := keep hrI
            have OI := keep hoI
            clear hbI hrI hoI hI
            by_cases hpm : p < m
            · obtain ⟨kb, rfl, hkB⟩ : ∃ kb, ykp = some ⟨kb, 0, none⟩ ∧ wq.heap.size ≤ kb := by
                rcases OI.out.2 with ⟨_, h0⟩ | ⟨g', cap, cur, e, h1, _⟩
                · omega
                · cases e
                  exact ⟨g', rfl, h1⟩
              obtain ⟨_, _, e7, hs7, _⟩ := Src.of_own OI.out
              cases e7
              have hcc := hs7.cap
              have hll := hs7.len
              have c6 : wr.cell? ⟨kb, p, none⟩ = some (.int .u8 ((fn l p).toNat : Int)) := by
                have := hs7.cells _ rfl p _ (bv_at _ p (by omega))
                rwa [Addr.add_mid, Nat.zero_add] at this
              have f6 : wr.frozen? ⟨kb, p, none⟩ = false := by
                obtain ⟨cur6, h6⟩ := own_tag OI.out (g := kb) rfl
                simp [World.frozen?, h6]
              have hne : Hid (kb ≠ g) := fun e => by
                obtain ⟨cur6, h6⟩ := own_tag OI.out (g := kb) rfl
                rw [e, RI.out] at h6
                cases h6
              obtain ⟨x, hx⟩ : ∃ x, fn l p = x := ⟨_, rfl⟩
              rw [hx] at c6
              obtain ⟨z, hz⟩ : ∃ z, x + 1 = z := ⟨_, rfl⟩
              have hadd : IntKind.u8.wrap ((x.toNat : Int) + 1) = (z.toNat : Int) := by
                rw [← hz, UInt8.toNat_add]
                simp [IntKind.wrap, IntKind.bits, IntKind.signed]
              have O7 := keep (own_turn OI.out (i := p) hpm z)
              have B7 := keep (BI.out.setCell (p := ⟨kb, p, none⟩) hkB (.int .u8 (z.toNat : Int)))
              have R7 : Hid ((wr.setCell ⟨kb, p, none⟩ (.int .u8 (z.toNat : Int))).heap[g]? = _) := (Below.heap_setCell _ _ _ g (fun e => hne.out e.symm)).trans RI.out
              have j0 : (0 : Int) ≤ (p : Int) := by omega
              have j1 : (p : Int) < (m : Int) := by omega
              clear hs7 hz hx hll
              go_wp2
              go_roundw
              case rel => exact ⟨p + 1, by omega, by first | rfl | go_num, B7.out, R7.out, _, O7.out⟩
              case measure => simp [intOf]; omega
            · obtain rfl : p = m := by omega
              have ll2 : ¬ (p : Int) < (p : Int) := by omega
              have B8 := keep (hB.out.trans (BI.out.mono hB.out.size))
              clear BI RI OI
              go_wp2
              go_roundw
              case rel => exact ⟨q + 1, by omega, by first | rfl | go_num, B8.out⟩
              case measure => simp [intOf]; omega
        · obtain rfl : q = n := by omega
          have ll : ¬ (q : Int) < (q : Int) := by omega
          obtain ⟨N, hN⟩ : ∃ N, q = N + 1 := ⟨q - 1, by omega⟩
          obtain ⟨xf, hf⟩ : ∃ x, es[0]? = some x := ⟨es[0]'(by rw [HL.out]; omega), List.getElem?_eq_getElem _⟩
          obtain ⟨xl, hlx⟩ : ∃ x, es[N]? = some x := ⟨es[N]'(by rw [HL.out]; omega), List.getElem?_eq_getElem _⟩
          have hfe : L'[0]? = some xf.e := by rw [← HLL.out, List.getElem?_map, hf]; rfl
          have hle : L'[L'.length - 1]? = some xl.e := by rw [HNL.out, hN, Nat.add_sub_cancel, ← HLL.out, List.getElem?_map, hlx]; rfl
          have SE : Hid (∀ w', Below wr.heap.size wr w' → RSrc entKind w' (some ⟨b, off, none⟩) q c es) := fun w' hb => SRC.out.below entKind_ok (BW.out.trans (hb.mono BW.out.size))
          have CF : Hid (∀ w', Below wr.heap.size wr w' → w'.cell? ⟨b, off, none⟩ = some (.slice xf.kp xf.e.key.length xf.kc)) := fun w' hb => by
            have := (ent_cells (SE.out w' hb) hf).1
            simpa using this
          have CL : Hid (∀ w', Below wr.heap.size wr w' → w'.cell? ⟨b, off + N * 4, none⟩ = some (.slice xl.kp xl.e.key.length xl.kc)) := fun w' hb => (ent_cells (SE.out w' hb) hlx).1
          have HF : Hid (∀ w', Below wr.heap.size wr w' → Src w' xf.kp xf.e.key.length xf.kc xf.e.key) := fun w' hb => ((SE.out w' hb).held xf (List.mem_of_getElem? hf)).1
          have HLs : Hid (∀ w', Below wr.heap.size wr w' → Src w' xl.kp xl.e.key.length xl.kc xl.e.key) := fun w' hb => ((SE.out w' hb).held xl (List.mem_of_getElem? hlx)).1
          have AL : Hid (∀ w', Below wr.heap.size wr w' → _) := fun w' hb => all_done tb ds _ w' (D4.out.below hb).done D4.out.few D4.out.small (by rw [D4.out.evs_len]; have := HNL.out; omega)
          have EN := keep D4.out.ents
          have FI : Hid (∀ w', Below wr.heap.size wr w' → _) := fun w' hb => first_tab (D4.out.below hb) hfe
          have LA : Hid (∀ w', Below wr.heap.size wr w' → _) := fun w' hb => last_tab (D4.out.below hb) hle
          have SUB : Hid ((q : Int) - 1 = (N : Int) ∧ IntKind.i64.wrap (N : Int) = (N : Int)) := ⟨by omega, wrap_small _ (by omega) (by omega)⟩
          have s3 : (N : Int) < (q : Int) := by omega
          have s4 : (0 : Int) ≤ (N : Int) := by omega
          have s5 : (0 : Int) < (q : Int) := by omega
          obtain ⟨fkp, fkc, fvp, fvc, ⟨fkey, fseq, fgone, fval⟩⟩ := xf
          obtain ⟨lkp, lkc, lvp, lvc, ⟨lkey, lseq, lgone, lval⟩⟩ := xl
          simp only at CF CL HF HLs FI LA
          clear hf hlx hfe hle hN hB D3 D4
          go_wp2_with fail
          refine wp_region_held_drew (S := fun w' => Below wr.heap.size wr w') (by kernel_rfl) ((Below.refl _ _).drew) (fun hHeld => ?_)
          refine takeH (i := 0) 91 (v := .pointer (some ⟨tb, 0, none⟩)) rfl rfl (by kernel_rfl) (by kernel_rfl) (by kernel_rfl) (fun _ _ _ h => h) (Or.inl ⟨by rfl, ?_⟩) (by assumption) ?_
          · intro w' hSw'
            go_simp
          simp only [Act.put, List.setIfInBounds_toArray, List.set_cons_zero, List.set_cons_succ]
          refine takeH (i := 2) 93 (v := .slice (some ⟨b, off, none⟩) q c) rfl rfl (by kernel_rfl) (by kernel_rfl) (by kernel_rfl) (fun _ _ _ h => h) (Or.inl ⟨by rfl, ?_⟩) (by assumption) ?_
          · intro w' hSw'
            go_simp
          simp only [Act.put, List.setIfInBounds_toArray, List.set_cons_zero, List.set_cons_succ]
          refine wpAnyH_ready (rs := [1]) (by kernel_rfl) (by simp) ?_
          refine AllReadyH.cons rfl (fun K hK => ?_) AllReadyH.nil
          go_simp
          refine (AL.out _ (Below.refl _ _).drew).mono ?_
          rintro e w8 ⟨v8, rfl, z8, hE8, hz8, hb8⟩
          obtain ⟨a8, c8, rfl, hR8, _⟩ := RSrc.own entKind_ok hE8.row (fun z hz => (hE8.each z hz).held)
          have B8 : Hid (Below wr.heap.size wr w8) := ((Below.refl _ _).drew).trans (hb8.mono (Nat.le_refl _))
          have hl8 : z8.length = q := by
            have h1 := congrArg List.length hz8
            rw [List.length_map, EN.out, HNL.out] at h1
            exact h1
          rw [hl8] at hR8 ⊢
          have SY := keep (same_yes a8 q c8 z8 (some ⟨b, off, none⟩) c es w8 (by omega) hR8 (SE.out w8 B8.out) (by rw [hz8, EN.out, HLL.out]))
          clear hE8 hz8 hb8 hR8 hl8
          go_wp2_with fail
          refine hK.out _ _ (B8.out) (fun hHeld1 => ?_)
          clear hK K
          refine wpAnyH_ready (rs := [3]) (by kernel_rfl) (by simp) ?_
          refine AllReadyH.cons rfl (fun K hK => ?_) AllReadyH.nil
          go_simp
          refine (SY.out).mono ?_
          rintro e w9 ⟨rfl, hb9⟩
          have B9 := keep (B8.out.trans (hb9.mono B8.out.size))
          clear hb9
          go_wp2_with fail
          refine hK.out _ _ (B9.out) (fun hHeld2 => ?_)
          clear hK K
          refine takeH (i := 4) 95 (v := .bool true) rfl rfl (by kernel_rfl) (by kernel_rfl) (by kernel_rfl) (fun _ _ _ h => h) (Or.inl ⟨by rfl, ?_⟩) (by assumption) ?_
          · intro w' hSw'
            go_simp
          simp only [Act.put, List.setIfInBounds_toArray, List.set_cons_zero, List.set_cons_succ]
          refine takeH (i := 5) 96 (v := .pointer (some ⟨tb, 0, none⟩)) rfl rfl (by kernel_rfl) (by kernel_rfl) (by kernel_rfl) (fun _ _ _ h => h) (Or.inl ⟨by rfl, ?_⟩) (by assumption) ?_
          · intro w' hSw'
            go_simp
          simp only [Act.put, List.setIfInBounds_toArray, List.set_cons_zero, List.set_cons_succ]
          refine takeH (i := 8) 99 (v := .slice (some ⟨b, off, none⟩) q c) rfl rfl (by kernel_rfl) (by kernel_rfl) (by kernel_rfl) (fun _ _ _ h => h) (Or.inl ⟨by rfl, ?_⟩) (by assumption) ?_
          · intro w' hSw'
            go_simp
          simp only [Act.put, List.setIfInBounds_toArray, List.set_cons_zero, List.set_cons_succ]
          refine takeH (i := 9) 100 (v := .pointer (some ⟨b, off, none⟩)) rfl rfl (by kernel_rfl) (by kernel_rfl) (by kernel_rfl) (fun _ _ _ h => h) (Or.inl ⟨by rfl, ?_⟩) (by assumption) ?_
          · intro w' hSw'
            have q0 : ¬ q = 0 := by omega
            go_simp
          simp only [Act.put, List.setIfInBounds_toArray, List.set_cons_zero, List.set_cons_succ]
          refine takeH (i := 10) 101 (v := .pointer (some ⟨b, off, none⟩)) rfl rfl (by kernel_rfl) (by kernel_rfl) (by kernel_rfl) (fun _ _ _ h => h) (Or.inl ⟨by rfl, ?_⟩) (by assumption) ?_
          · intro w' hSw'
            go_simp
          simp only [Act.put, List.setIfInBounds_toArray, List.set_cons_zero, List.set_cons_succ]
          refine takeH (i := 11) 102 (v := .slice fkp fkey.length fkc) rfl rfl (by kernel_rfl) (by kernel_rfl) (by kernel_rfl) (fun _ _ _ h => h) (Or.inl ⟨by rfl, ?_⟩) (by assumption) ?_
          · intro w' hSw'
            have d0 := CF.out w' hSw'
            go_simp
          simp only [Act.put, List.setIfInBounds_toArray, List.set_cons_zero, List.set_cons_succ]
          refine takeH (i := 12) 103 (v := .string ⟨fkey.toArray⟩) rfl rfl (by kernel_rfl) (by kernel_rfl) (by kernel_rfl) (fun _ _ _ h => h) (Or.inl ⟨by rfl, ?_⟩) (by assumption) ?_
          · intro w' hSw'
            have q1 := conv_src (HF.out w' hSw')
            go_simp
          simp only [Act.put, List.setIfInBounds_toArray, List.set_cons_zero, List.set_cons_succ]
          refine wpAnyH_ready (rs := [6]) (by kernel_rfl) (by simp) ?_
          refine AllReadyH.cons rfl (fun K hK => ?_) AllReadyH.nil
          go_simp
          refine (FI.out _ B9.out).mono ?_
          rintro e w10 ⟨a10, k10, rfl, hs10, hb10⟩
          have B10 := keep (B9.out.trans (hb10.mono B9.out.size))
          have S10 := keep hs10
          clear hb10 hs10
          go_wp2_with fail
          refine hK.out _ _ (B10.out) (fun hHeld3 => ?_)
          clear hK K
          refine wpAnyH_narrow (S2 := fun w' => Below w10.heap.size w10 w') (fun w' hb => B10.out.trans (hb.mono B10.out.size)) _ _ _ _ ?_
          have hN10 : (fun w' => Below w10.heap.size w10 w') w10 := Below.refl _ _
          refine takeH (i := 7) 98 (v := .string ⟨fkey.toArray⟩) rfl rfl (by kernel_rfl) (by kernel_rfl) (by kernel_rfl) (fun _ _ _ h => h) (Or.inl ⟨by rfl, ?_⟩) (by assumption) ?_
          · intro w' hSw'
            have q1 := conv_src (S10.out.below hSw')
            go_simp
          simp only [Act.put, List.setIfInBounds_toArray, List.set_cons_zero, List.set_cons_succ]
          refine takeH (i := 13) 104 (v := .bool true) rfl rfl (by kernel_rfl) (by kernel_rfl) (by kernel_rfl) (fun _ _ _ h => h) (Or.inl ⟨by rfl, ?_⟩) (by assumption) ?_
          · intro w' hSw'
            go_simp
          simp only [Act.put, List.setIfInBounds_toArray, List.set_cons_zero, List.set_cons_succ]
          refine takeH (i := 14) 105 (v := .bool true) rfl rfl (by kernel_rfl) (by kernel_rfl) (by kernel_rfl) (fun _ _ _ h => h) (Or.inl ⟨by rfl, ?_⟩) (by assumption) ?_
          · intro w' hSw'
            go_simp
          simp only [Act.put, List.setIfInBounds_toArray, List.set_cons_zero, List.set_cons_succ]
          refine takeH (i := 15) 106 (v := .bool true) rfl rfl (by kernel_rfl) (by kernel_rfl) (by kernel_rfl) (fun _ _ _ h => h) (Or.inl ⟨by rfl, ?_⟩) (by assumption) ?_
          · intro w' hSw'
            go_simp
          simp only [Act.put, List.setIfInBounds_toArray, List.set_cons_zero, List.set_cons_succ]
          refine takeH (i := 16) 107 (v := .pointer (some ⟨tb, 0, none⟩)) rfl rfl (by kernel_rfl) (by kernel_rfl) (by kernel_rfl) (fun _ _ _ h => h) (Or.inl ⟨by rfl, ?_⟩) (by assumption) ?_
          · intro w' hSw'
            go_simp
          simp only [Act.put, List.setIfInBounds_toArray, List.set_cons_zero, List.set_cons_succ]
          refine takeH (i := 19) 110 (v := .slice (some ⟨b, off, none⟩) q c) rfl rfl (by kernel_rfl) (by kernel_rfl) (by kernel_rfl) (fun _ _ _ h => h) (Or.inl ⟨by rfl, ?_⟩) (by assumption) ?_
          · intro w' hSw'
            go_simp
          simp only [Act.put, List.setIfInBounds_toArray, List.set_cons_zero, List.set_cons_succ]
          refine takeH (i := 20) 111 (v := .slice (some ⟨b, off, none⟩) q c) rfl rfl (by kernel_rfl) (by kernel_rfl) (by kernel_rfl) (fun _ _ _ h => h) (Or.inl ⟨by rfl, ?_⟩) (by assumption) ?_
          · intro w' hSw'
            go_simp
          simp only [Act.put, List.setIfInBounds_toArray, List.set_cons_zero, List.set_cons_succ]
          refine takeH (i := 21) 112 (v := .int .i64 (q : Int)) rfl rfl (by kernel_rfl) (by kernel_rfl) (by kernel_rfl) (fun _ _ _ h => h) (Or.inl ⟨by rfl, ?_⟩) (by assumption) ?_
          · intro w' hSw'
            go_simp
          simp only [Act.put, List.setIfInBounds_toArray, List.set_cons_zero, List.set_cons_succ]
          refine takeH (i := 0x16) 113 (v := .int .i64 (N : Int)) rfl rfl (by kernel_rfl) (by kernel_rfl) (by kernel_rfl) (fun _ _ _ h => h) (Or.inl ⟨by rfl, ?_⟩) (by assumption) ?_
          · intro w' hSw'
            obtain ⟨q8, q9⟩ := SUB.out
            go_simp
          simp only [Act.put, List.setIfInBounds_toArray, List.set_cons_zero, List.set_cons_succ]
          refine takeH (i := 23) 114 (v := .pointer (some ⟨b, off + N * 4, none⟩)) rfl rfl (by kernel_rfl) (by kernel_rfl) (by kernel_rfl) (fun _ _ _ h => h) (Or.inl ⟨by rfl, ?_⟩) (by assumption) ?_
          · intro w' hSw'
            go_simp
          simp only [Act.put, List.setIfInBounds_toArray, List.set_cons_zero, List.set_cons_succ]
          refine takeH (i := 24) 115 (v := .pointer (some ⟨b, off + N * 4, none⟩)) rfl rfl (by kernel_rfl) (by kernel_rfl) (by kernel_rfl) (fun _ _ _ h => h) (Or.inl ⟨by rfl, ?_⟩) (by assumption) ?_
          · intro w' hSw'
            go_simp
          simp only [Act.put, List.setIfInBounds_toArray, List.set_cons_zero, List.set_cons_succ]
          refine takeH (i := 25) 116 (v := .slice lkp lkey.length lkc) rfl rfl (by kernel_rfl) (by kernel_rfl) (by kernel_rfl) (fun _ _ _ h => h) (Or.inl ⟨by rfl, ?_⟩) (by assumption) ?_
          · intro w' hSw'
            have d0 := CL.out w' (B10.out.trans (hSw'.mono B10.out.size))
            go_simp
          simp only [Act.put, List.setIfInBounds_toArray, List.set_cons_zero, List.set_cons_succ]
          refine takeH (i := 26) 117 (v := .string ⟨lkey.toArray⟩) rfl rfl (by kernel_rfl) (by kernel_rfl) (by kernel_rfl) (fun _ _ _ h => h) (Or.inl ⟨by rfl, ?_⟩) (by assumption) ?_
          · intro w' hSw'
            have q1 := conv_src (HLs.out w' (B10.out.trans (hSw'.mono B10.out.size)))
            go_simp
          simp only [Act.put, List.setIfInBounds_toArray, List.set_cons_zero, List.set_cons_succ]
          refine wpAnyH_ready (rs := [17]) (by kernel_rfl) (by simp) ?_
          refine AllReadyH.cons rfl (fun K hK => ?_) AllReadyH.nil
          go_simp
          refine (LA.out _ B10.out).mono ?_
          rintro e w13 ⟨a13, k13, rfl, hs13, hb13⟩
          have b13 := keep hb13
          have B13 := keep (B10.out.trans (hb13.mono B10.out.size))
          have S13 := keep hs13
          clear hb13 hs13
          go_wp2_with fail
          refine hK.out _ _ (b13.out) (fun hHeld4 => ?_)
          clear hK K
          refine wpAnyH_narrow (S2 := fun w' => Below w13.heap.size w13 w') (fun w' hb => b13.out.trans (hb.mono b13.out.size)) _ _ _ _ ?_
          have hN13 : (fun w' => Below w13.heap.size w13 w') w13 := Below.refl _ _
          refine takeH (i := 18) 109 (v := .string ⟨lkey.toArray⟩) rfl rfl (by kernel_rfl) (by kernel_rfl) (by kernel_rfl) (fun _ _ _ h => h) (Or.inl ⟨by rfl, ?_⟩) (by assumption) ?_
          · intro w' hSw'
            have q1 := conv_src (S13.out.below hSw')
            go_simp
          simp only [Act.put, List.setIfInBounds_toArray, List.set_cons_zero, List.set_cons_succ]
          refine takeH (i := 27) 118 (v := .bool true) rfl rfl (by kernel_rfl) (by kernel_rfl) (by kernel_rfl) (fun _ _ _ h => h) (Or.inl ⟨by rfl, ?_⟩) (by assumption) ?_
          · intro w' hSw'
            go_simp
          simp only [Act.put, List.setIfInBounds_toArray, List.set_cons_zero, List.set_cons_succ]
          refine takeH (i := 28) 119 (v := .bool true) rfl rfl (by kernel_rfl) (by kernel_rfl) (by kernel_rfl) (fun _ _ _ h => h) (Or.inl ⟨by rfl, ?_⟩) (by assumption) ?_
          · intro w' hSw'
            go_simp
          simp only [Act.put, List.setIfInBounds_toArray, List.set_cons_zero, List.set_cons_succ]
          refine takeH (i := 29) 2 (v := .bool true) rfl rfl (by kernel_rfl) (by kernel_rfl) (by kernel_rfl) (fun _ _ _ h => h) (Or.inl ⟨by rfl, ?_⟩) (by assumption) ?_
          · intro w' hSw'
            go_simp
          simp only [Act.put, List.setIfInBounds_toArray, List.set_cons_zero, List.set_cons_succ]
          refine wpAnyH_done (by kernel_rfl) ?_ _
          go_wp2
          go_ret
          exact ⟨rfl, BW.out.trans (B13.out.mono BW.out.size)⟩
    · rw [PS.out] at hno; cases hno
  · have B2 := keep (B1.out.trans (hb2.mono B1.out.size))
    clear hok hb2 BU
    go_wp2
    go_ret
    exact ⟨rfl, B2.out⟩
end Go.Proofs.Ytjblicgbdecbcaa
