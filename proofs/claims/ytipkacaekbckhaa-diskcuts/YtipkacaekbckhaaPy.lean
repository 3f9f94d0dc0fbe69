/- The walk of played. -/
import Derived.Test.YtipkacaekbckhaaSy
namespace Go.Proofs.Ytipkacaekbckhaa
open Go.RowKit
open Dk (File Disk)

theorem free_mem (S : Nat → Prop) (b : Nat) (d : Disk) (w : World) (h : Mem S w b d) : Calls Try.prog 14 #[.pointer (some ⟨b, 0, none⟩)] w fun e w' => e = .returned (.int .i64 ((d.cap : Int) - (Dk.used d.files : Int))) ∧ Below w.heap.size w w' := by
  obtain ⟨m, l, left, h⟩ := h
  exact free_box b m _ left _ _ w h.box
theorem ops_mem (S : Nat → Prop) (b : Nat) (d : Disk) (w : World) (h : Mem S w b d) : Calls Try.prog 16 #[.pointer (some ⟨b, 0, none⟩)] w fun e w' => e = .returned (.int .i64 (d.done : Int)) ∧ Below w.heap.size w w' := by
  obtain ⟨m, l, left, h⟩ := h
  exact ops_box b m _ left _ _ w h.box
theorem off_mem (S : Nat → Prop) (b : Nat) (d : Disk) (w : World) (h : Mem S w b d) : Calls Try.prog 17 #[.pointer (some ⟨b, 0, none⟩)] w fun e w' => e = .returned (.bool d.dark) ∧ Below w.heap.size w w' := by
  obtain ⟨m, l, left, h⟩ := h
  exact off_box b m _ left _ _ w h.box

set_option maxHeartbeats 2000000 in
set_option maxRecDepth 100000 in
theorem played_any (ao : Option Addr) (m c : Nat) (es : List OpE) (w : World) (hs : RSrc opKind w ao m c es) (hc : c ≤ maxLen) (hf : ∀ e ∈ es, Fine e) :
    Calls Try.prog 31 #[.slice ao m c] w fun e w' => ∃ S b d, e = .returned (.pointer (some ⟨b, 0, none⟩)) ∧ Own w S w' b d ∧ d.cap = 1048575 ∧ d.done ≤ 100 := by
  have hn := keep (new_mem 1048575 w (by omega))
  rw [show ((1048575 : Nat) : Int) = 1048575 from rfl] at hn
  have HS := keep hs
  have HF := keep hf
  have HC := keep hc
  clear hs hf hc
  go_enter Try.func31, Try.ntmps31
  go_wp2_with fail
  refine hn.out.mono ?_
  rintro e w1 ⟨b, S, rfl, hm, hS, hb, hbel⟩
  have H1 : Hid (Own w S w1 b ⟨1048575, [], 0, none, false⟩) := ⟨hm, hS, hb, hbel⟩
  clear hm hS hbel hn hb
  go_wp2_with fail
  have hr := rnew_ref (Go.Proofs.Ytipkacaekbckhaa.mine S b) 1048575 w1 (by omega) (fun g hg => (H1.out.mines g hg).2)
  rw [show ((1048575 : Nat) : Int) = 1048575 from rfl] at hr
  refine hr.mono ?_
  rintro e w2 ⟨q, rfl, hq, hlq, hbq⟩
  have B2 : Hid (Both (fun _ => True) w S w2 b q ⟨1048575, [], 0, none, false⟩ ⟨1048575, [], 0, none, false⟩) := ⟨H1.out.next hbq, hq, Nat.le_trans H1.out.bel.size hlq, fun _ _ => trivial⟩
  clear hq hlq hbq H1 hr
  go_wp2_with fail
  go_loopw [7] (fun i wr => ∃ (t : Nat) (S : Nat → Prop) (d r : Disk), t ≤ m ∧ t ≤ 100 ∧ i = .int .i64 (t : Int) ∧ Hid (Both (fun _ => True) w S wr b q d r ∧ d.cap = 1048575 ∧ d.done ≤ t ∧ r.done ≤ t)) (fun i _ => 100 - (intOf i).toNat)
  case atStart => exact ⟨0, S, _, _, Nat.zero_le _, by omega, rfl, B2.out, rfl, Nat.zero_le _, Nat.zero_le _⟩
  case round =>
    obtain ⟨t, S1, d, r, ht, ht2, rfl, hB⟩ := hrel
    clear B2
    have t0 : (0 : Int) ≤ (t : Int) := by omega
    rcases Nat.lt_or_ge t m with hlt | hge
    · have t1 : (t : Int) < (m : Int) := by omega
      rcases Nat.lt_or_ge t 100 with hl | hg
      · have t2 : (t : Int) < 100 := by omega
        have hR := HS.out.below opKind_ok hB.out.1.own.bel
        obtain ⟨o, ho⟩ : ∃ o, es[t]? = some o := ⟨es[t]'(by rw [HS.out.len]; exact hlt), List.getElem?_eq_getElem _⟩
        have hfo := keep (HF.out o (List.mem_of_getElem? ho))
        have hho := keep (HS.out.held o (List.mem_of_getElem? ho))
        obtain ⟨bb, off, rfl, _, hat⟩ := hR.form opKind_ok (by omega)
        have hst := keep (step_any (X := fun _ => True) w S1 wr b q d r o hB.out.1 hho.out hfo.out (by have := hB.out.2.2.1; omega) (by have := hB.out.2.2.2; omega))
        have hdn := keep (opOn_done (tag o.what) o d)
        have hrn := keep (opOn_done (tag o.what) o r)
        obtain ⟨wh, z, a, b2, da0, dc0, da, pp, pc, ps⟩ := o
        have c0 : wr.cell? ⟨bb, off + t * 6, none⟩ = some (.int .i64 wh) := hat t _ ho 0 _ rfl
        have c1 : wr.cell? ⟨bb, off + t * 6 + 1, none⟩ = some (.int .i64 z) := hat t _ ho 1 _ rfl
        have c2 : wr.cell? ⟨bb, off + t * 6 + 2, none⟩ = some (.string ⟨a.toArray⟩) := hat t _ ho 2 _ rfl
        have c3 : wr.cell? ⟨bb, off + t * 6 + 3, none⟩ = some (.string ⟨b2.toArray⟩) := hat t _ ho 3 _ rfl
        have c4 : wr.cell? ⟨bb, off + t * 6 + 4, none⟩ = some (.slice da0 da.length dc0) := hat t _ ho 4 _ rfl
        have c5 : wr.cell? ⟨bb, off + t * 6 + 5, none⟩ = some (.slice pp ps.length pc) := hat t _ ho 5 _ rfl
        clear hat ho hR HS HF hfo hho
        go_wp2_with fail
        refine hst.out.mono ?_
        rintro e w3 ⟨S2, x, rfl, _, hB3⟩
        have B3 := keep hB3
        clear hB3 hst
        go_wp2
        go_roundw
        case rel => exact ⟨t + 1, S2, _, _, by omega, by omega, by first | rfl | go_num, B3.out, hdn.out.2.trans hB.out.2.1, by have h1 := hB.out.2.2.1; have h2 := hdn.out.1; omega, by have h1 := hB.out.2.2.2; have h2 := hrn.out.1; omega⟩
        case measure => simp [intOf]; omega
      · have t2 : ¬ (t : Int) < 100 := by omega
        go_wp2
        go_ret
        exact ⟨S1, b, rfl, d, hB.out.1.own, hB.out.2.1, by have := hB.out.2.2.1; omega⟩
    · have t1 : ¬ (t : Int) < (m : Int) := by omega
      go_wp2
      go_ret
      exact ⟨S1, b, rfl, d, hB.out.1.own, hB.out.2.1, by have := hB.out.2.2.1; omega⟩
end Go.Proofs.Ytipkacaekbckhaa
