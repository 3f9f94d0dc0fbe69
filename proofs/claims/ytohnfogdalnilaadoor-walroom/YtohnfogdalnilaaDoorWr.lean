/- The walk of wal's Replay. -/
import Derived.Test.YtohnfogdalnilaaDoorWk
namespace Go.Proofs.YtohnfogdalnilaaDoor
open Go.RowKit
open Dk (File Disk)

theorem info_parts3 {P : Program} {t : TypeId} {z : Value} {s b : Nat} (h : (P.info? t).map (fun i => (i.zero, i.size, i.bytes)) = some (some z, s, b)) : ∃ i, P.info? t = some i ∧ i.zero = some z ∧ i.size = s ∧ i.bytes = b := by
  cases hi : P.info? t with
  | none => rw [hi] at h; cases h
  | some i =>
    rw [hi] at h
    simp only [Option.map_some, Option.some.injEq, Prod.mk.injEq] at h
    exact ⟨i, rfl, h.1, h.2.1, h.2.2⟩
theorem infoB : (Tryd.prog.info? 30).map (fun i => (i.zero, i.size, i.bytes)) = some (some (.slice none 0 0), 1, 24) := by kernel_rfl
theorem seg_len (n : Int) : (segName n).length ≤ 17 := by
  cases h : isSeg n with
  | false => rw [segName_none h]; simp
  | true => rw [segName_len h]; omega
/-- Replay's answer: an error, or bodies. -/
def Told (w : World) (r : Nat × List (List UInt8)) (e : Ending) (w' : World) : Prop :=
  (r.1 ≠ 0 ∧ e = .returned (.tuple #[.slice none 0 0, .int .i64 (r.1 : Int)]) ∧ Below w.heap.size w w') ∨
  (r.1 = 0 ∧ ∃ ao c es, e = .returned (.tuple #[.slice ao es.length c, .int .i64 0]) ∧ RSrc byteKind w' ao es.length c es ∧ es.map ByteE.bytes = r.2 ∧ c ≤ maxLen ∧ Below w.heap.size w w')
def replayOf (d : Disk) (n : Int) : Nat × List (List UInt8) := ((readOf d.files (segName n)).1, bodiesOf (readOf d.files (segName n)).2)
/-- A body that the call made. -/
def OwnB (B : Nat) (w : World) (e : ByteE) : Prop := w.ownsRow B 5 1 (.slice e.ptr e.bytes.length e.cap) e.bytes.length (bv e.bytes)
theorem OwnB.held {B : Nat} {w : World} {e : ByteE} (h : OwnB B w e) : byteKind.held w e := by
  obtain ⟨ao, c, e1, h1, _⟩ := Src.of_own h
  cases e1
  exact h1
theorem byte_more {B tF : Nat} {wr W4 w5 : World} {v8 : Value} {n : Nat} {es : List ByteE} {e : ByteE} (hne : ¬ tF = 5) (hv : wr.ownsRow B tF 1 v8 n (rv byteKind es)) (hh : ∀ e ∈ es, OwnB B wr e) (hb : Below wr.heap.size wr W4) (he : OwnB B W4 e) (hg : W4.grownBy w5 v8.ownBlock) : ∀ e' ∈ es ++ [e], OwnB B w5 e' := by
  have h4 : ∀ e' ∈ es ++ [e], OwnB B W4 e' := fun e' hm => by
    rcases List.mem_append.1 hm with hm | hm
    · exact own_block (hh e' hm) (fun g hgg => hb.block g (own_size (hh e' hm) hgg))
    · rw [List.mem_singleton.1 hm]; exact he
  have hv4 : W4.ownsRow B tF 1 v8 n (rv byteKind es) := own_block hv (fun g hgg => hb.block g (own_size hv hgg))
  intro e' hm
  refine own_block (h4 e' hm) (fun g hgg => hg.block g (own_size (h4 e' hm) hgg) (fun e1 => ?_))
  obtain ⟨c1, h1⟩ := own_tag (h4 e' hm) hgg
  obtain ⟨c2, h2⟩ := own_tag hv4 e1.symm
  rw [h1] at h2
  cases h2
  exact hne rfl
set_option maxHeartbeats 2000000 in
set_option maxRecDepth 100000 in
theorem replay_mem (S : Nat → Prop) (b : Nat) (d : Disk) (n : Int) (w : World) (h : Mem S w b d) (ht : Tab w) (hcap : d.cap ≤ 1099511627776) :
    Calls Tryd.prog 12 #[.pointer (some ⟨b, 0, none⟩), .int .i64 n] w (Told w (replayOf d n)) := by
  have HM := keep h
  have hN := keep (name_any n w ht)
  have hsl := seg_len n
  obtain ⟨N, hNN⟩ : ∃ N, segName n = N := ⟨_, rfl⟩
  have hbl : (readOf d.files N).2.length ≤ 1099511627776 := by
    unfold readOf
    split
    · cases hx : Dk.look d.files N with
      | none => simp
      | some f =>
        have h1 := used_mem (Dk.look_some hx).1
        have h2 := h.good.room
        simp only [Dk.cost] at h1
        simp only
        omega
    · simp
  unfold replayOf
  rw [hNN] at hN hsl ⊢
  clear h ht
  go_enter Tryd.func12, Tryd.ntmps12
  go_wp2_with fail
  refine hN.out.mono ?_
  rintro e w1 ⟨rfl, hb1⟩
  have B1 := keep hb1
  clear hb1 hN
  go_wp2_with fail
  refine (read_mem S b d N w1 (HM.out.below B1.out) (by unfold maxLen; omega)).mono ?_
  rintro e w2 ⟨v2, rfl, hv2⟩
  obtain ⟨a2, c2, rfl, hs2, hc2⟩ := hv2.src
  have S2 := keep hs2
  have B2 := keep (B1.out.trans (hv2.2.mono B1.out.size))
  obtain ⟨r, hr⟩ : ∃ r, readOf d.files N = r := ⟨_, rfl⟩
  rw [hr] at S2 hbl ⊢
  obtain ⟨E, l⟩ := r
  simp only at S2 hbl ⊢
  have RR := keep hr
  clear hv2 hs2 hr
  by_cases hE : E = 0
  · subst hE
    obtain ⟨i0, hi, hz0, hz1, hz2⟩ := info_parts3 infoB
    go_wp2_with fail
    go_loopw [6, 8] (fun u v wr => ∃ (rest : List UInt8) (ar : Option Addr) (cr : Nat) (es : List ByteE), u = .slice ar rest.length cr ∧ rest.length ≤ l.length ∧ cr ≤ maxLen ∧ Hid (∀ w', Below w2.heap.size w2 w' → Src w' ar rest.length cr rest) ∧ Hid (wr.ownsRow w2.heap.size 30 1 v es.length (rv byteKind es) ∧ (∀ e ∈ es, OwnB w2.heap.size wr e) ∧ es.map ByteE.bytes ++ bodiesOf rest = bodiesOf l ∧ Below w2.heap.size w2 wr ∧ es.length + rest.length ≤ l.length)) (fun u _ _ => lenOf u)
    case atStart => exact ⟨l, a2, c2, [], rfl, Nat.le_refl _, hc2, fun w' hb' => S2.out.below hb', World.ownsRow_nil _ _ _ _, (fun e h => by cases h), by simp, Below.refl _ _, by simp⟩
    case round =>
      obtain ⟨rest, ar, cr, es, rfl, hrl, hcr, hsr, hI⟩ := hrel
      have FA := keep (first_any ar rest.length cr rest wr (by omega) (hsr.out wr hI.out.2.2.2.1))
      obtain ⟨F, hF⟩ : ∃ F, firstLen rest = F := ⟨_, rfl⟩
      rw [hF] at FA
      have HF := keep hF
      clear hF S2
      go_wp2_with fail
      refine FA.out.mono ?_
      rintro e w3 ⟨a3, c3, rfl, hFm, hs3, hb3⟩
      have B3 := keep hb3
      have TF := keep (takeFrame_any a3 F c3 (rest.take F) most w3 (by omega) (hs3 w3 hb3))
      clear hb3 FA
      unfold most at TF
      cases htf : tfr rest most with
      | none =>
        have h1 := first_none htf
        rw [HF.out] at h1
        have hbn := keep (bodies_none htf)
        unfold most at h1
        have H1 := keep h1
        clear htf h1
        go_wp2_with fail
        refine TF.out.mono ?_
        rintro e w4 (⟨_, _, _, _, _, _, h, _⟩ | ⟨_, rfl, hb4⟩)
        · rw [H1.out] at h; cases h
        have B4 := keep (B3.out.trans (hb4.mono B3.out.size))
        have ho4 := own_block (w' := w4) hI.out.1 (fun g hgg => B4.out.block g (own_size hI.out.1 hgg))
        obtain ⟨a5, c5, rfl, hR5, hc5⟩ := RSrc.own byteKind_ok ho4 (fun e he => byteKind_ok.below (hI.out.2.1 e he).held B4.out)
        have R5 := keep hR5
        have C5 := keep hc5
        clear hb4 TF hs3 ho4 hR5 hc5
        go_wp2
        go_ret2
        rw [RR.out]
        refine .inr ⟨rfl, a5, c5, es, rfl, R5.out, ?_, C5.out, B2.out.trans ((hI.out.2.2.2.1.trans (B4.out.mono hI.out.2.2.2.1.size)).mono B2.out.size)⟩
        have := hI.out.2.2.1
        rw [hbn.out, List.append_nil] at this
        exact this
      | some x =>
        obtain ⟨B, R'⟩ := x
        obtain ⟨k1, k2, k3⟩ := first_some htf
        have hbs := keep (bodies_some htf)
        have hle := frame_pos B
        rw [HF.out] at k1 k2 k3
        unfold most at k2
        have K1 := keep k1
        have K2 := keep k2
        have K3 := keep k3
        clear htf k1 k2 k3 hle
        go_wp2_with fail
        refine TF.out.mono ?_
        rintro e w4 (⟨B', R2, a4, c4, _, _, h, rfl, ho4, _, hb4⟩ | ⟨h, _, _⟩)
        · rw [K2.out] at h
          cases h
          have B4 := keep (B3.out.trans (hb4.mono B3.out.size))
          have hFp : 0 < rest.length := by have := K1.out; have := frame_pos B; omega
          have hRl : R'.length = rest.length - F := by rw [← K3.out, List.length_drop]
          have hFc : F ≤ cr := by have := (hsr.out wr hI.out.2.2.2.1).cap; omega
          obtain ⟨rb, ro, rfl, hrb, _⟩ := (hsr.out wr hI.out.2.2.2.1).form hFp
          have OB : Hid (OwnB w2.heap.size w4 (⟨a4, c4, B⟩ : ByteE)) := own_base ho4 (fun g hg => Nat.le_trans (Nat.le_trans hI.out.2.2.2.1.size B3.out.size) (ho4.lt g hg).1)
          have b5 := keep (B4.out.alloc B4.out.size (.cells #[.slice a4 B.length c4] 30))
          have ow := keep (own_block (w' := w4.alloc (.cells #[.slice a4 B.length c4] 30)) hI.out.1 (fun g hgg => b5.out.block g (own_size hI.out.1 hgg)))
          have sz := keep (show w2.heap.size ≤ (w4.alloc (.cells #[.slice a4 B.length c4] 30)).heap.size from Nat.le_trans hI.out.2.2.2.1.size b5.out.size)
          have rc := keep (rec_cells (k := byteKind) w4 30 (⟨a4, c4, B⟩ : ByteE))
          have hel : es.length ≤ 1099511627776 := by have := hI.out.2.2.2.2; omega
          have SR := hsr
          have hF0 : (0 : Int) ≤ (F : Int) := by omega
          have hF1 : (F : Int) ≤ (rest.length : Int) := by omega
          have HFM := keep hFm
          have HRL := keep hRl
          have hnx : Hid ((es ++ [(⟨a4, c4, B⟩ : ByteE)]).map ByteE.bytes ++ bodiesOf R' = bodiesOf l) := by
            have h1 := hI.out.2.2.1
            rw [hbs.out] at h1
            show _ = _
            rw [List.map_append, ← h1]
            simp
          have BL5 : Hid (Below w2.heap.size w2 (w4.alloc (.cells #[.slice a4 B.length c4] 30))) := hI.out.2.2.2.1.trans (b5.out.mono hI.out.2.2.2.1.size)
          have hln := hI.out.2.2.2.2
          have hpo : 5 ≤ F := by have := K1.out; have := frame_pos B; omega
          clear hb4 ho4 TF hs3 hsr hRl
          by_cases hcF : cr = F
          · go_wp2_with (first
              | (at_builtin; go_loud (refine wpList_append_rec byteKind_ok rfl _ _ 22 30 rfl w2.heap.size i0 _ 24 Tryd.underlying22 hi hz0 hz1 hz2 rfl u8 es.length es rfl ow.out _ 1 (⟨a4, c4, B⟩ : ByteE) rfl rc.out (by unfold maxLen; omega) (by omega) sz.out ?_); intro v5 w5 ho5 hg5; have HO5 := keep ho5; have HG5 := keep hg5; clear ho5 hg5))
            have BL6 : Hid (Below w2.heap.size w2 w5) := BL5.out.grown HG5.out BL5.out.size (fun j hj => (hI.out.1.lt j hj).1)
            have hm6 := byte_more (by decide) hI.out.1 hI.out.2.1 b5.out (own_block OB.out (fun g hgg => Below.heap_alloc _ _ g (own_size OB.out hgg))) HG5.out
            go_roundw
            case rel =>
              (repeat apply Exists.intro)
              exact ⟨⟨R', some ⟨rb, ro, none⟩, 0, es ++ [(⟨a4, c4, B⟩ : ByteE)], by rw [HRL.out], by have := HRL.out; omega, Nat.zero_le _, fun w' hb' => by
              have h1 := (SR.out w' hb').tail0 F hcF.symm
              rw [K3.out] at h1
              have h2 : R'.length = 0 := by have := HRL.out; have := (SR.out w' hb').cap; omega
              rw [h2]
              exact h1, by rw [List.length_append]; exact HO5.out, hm6, hnx.out, BL6.out, by have := HRL.out; rw [List.length_append, List.length_singleton]; omega⟩, rfl⟩
            case measure => simp [lenOf]; omega
          · go_wp2_with (first
              | (at_builtin; go_loud (refine wpList_append_rec byteKind_ok rfl _ _ 22 30 rfl w2.heap.size i0 _ 24 Tryd.underlying22 hi hz0 hz1 hz2 rfl u8 es.length es rfl ow.out _ 1 (⟨a4, c4, B⟩ : ByteE) rfl rc.out (by unfold maxLen; omega) (by omega) sz.out ?_); intro v5 w5 ho5 hg5; have HO5 := keep ho5; have HG5 := keep hg5; clear ho5 hg5))
            have BL6 : Hid (Below w2.heap.size w2 w5) := BL5.out.grown HG5.out BL5.out.size (fun j hj => (hI.out.1.lt j hj).1)
            have hm6 := byte_more (by decide) hI.out.1 hI.out.2.1 b5.out (own_block OB.out (fun g hgg => Below.heap_alloc _ _ g (own_size OB.out hgg))) HG5.out
            go_roundw
            case rel =>
              (repeat apply Exists.intro)
              exact ⟨⟨R', some ⟨rb, ro + F, none⟩, cr - F, es ++ [(⟨a4, c4, B⟩ : ByteE)], by rw [HRL.out], by have := HRL.out; omega, by omega, fun w' hb' => by
              have h1 := (SR.out w' hb').tailS F HFM.out
              rw [K3.out] at h1
              rw [HRL.out]
              exact h1, by rw [List.length_append]; exact HO5.out, hm6, hnx.out, BL6.out, by have := HRL.out; rw [List.length_append, List.length_singleton]; omega⟩, rfl⟩
            case measure => simp [lenOf]; omega
        · rw [K2.out] at h; cases h
  · have hE1 : ((E : Int) == 0) = false := by rw [beq_eq_false_iff_ne]; omega
    have HE := keep hE
    clear hE
    go_wp2
    go_ret2
    rw [RR.out]
    exact .inl ⟨HE.out, rfl, B2.out⟩
end Go.Proofs.YtohnfogdalnilaaDoor
