/- The walks of a row's part, and of parts. -/
import Derived.Test.YtgdggeacjfhkkaaM1
import Derived.Deep.RegionHeld3
import Derived.Deep.QuietTactic
import Derived.BigQuiet
import Derived.WalkSmall
import Derived.Shelf.Abstract
namespace Go.Proofs.Ytgdggeacjfhkkaa
open Go.RowKit
open Sk (Ent)

/-- A function is entered when it is called. -/
def Enters (F : Nat) : Prop := ∀ args w, (callFunc F args).run Try.prog w = .ok (.enter F args) w
set_option maxHeartbeats 4000000 in
set_option maxRecDepth 100000 in
theorem part_any (F : Nat) (q : Ent → Ent → Bool) (hT : Tells2 F q) (hE : Enters F) (B b off n c : Nat) (es : List EV) (w : World) (h : Left w B (some ⟨b, off, none⟩) n c) (hs : RSrc entKind w (some ⟨b, off, none⟩) n c es) (hn : 0 < n) (hN : n ≤ 1000000) (hc : c ≤ maxLen) :
    Calls Try.prog 43 #[.pointer (some ⟨B, 0, none⟩), .func (.func F) #[] #[]] w fun e w' => ∃ p' m, e = .returned (.slice (some ⟨b, off, none⟩) m c) ∧ 0 < m ∧ m ≤ n ∧ Left w' B p' (n - m) (c - m) ∧ w.grownBy w' (some B) ∧ (p' = some ⟨b, off + m * 4, none⟩ ∧ m < c ∨ p' = some ⟨b, off, none⟩ ∧ m = n) ∧
      Mg.parts (fun x y => q x.e y.e) es = es.take m :: Mg.parts (fun x y => q x.e y.e) (es.drop m) := by
  have HL := keep h
  have HS := keep hs
  have HT := keep hT
  have hlen := keep hs.len
  have hcap := hs.cap
  have hE' := hE
  unfold Enters at hE'
  have HC := keep hc
  unfold maxLen at hc
  clear h hs hT hE
  go_enter Try.func43, Try.ntmps43
  go_wp2
  go_loopw [5] (fun i wr => ∃ k : Nat, k + 1 ≤ n ∧ i = .int .i64 ((k : Int) + 1) ∧ Hid (Below w.heap.size w wr ∧ ∀ j x y, j < k → es[j]? = some x → es[j + 1]? = some y → q x.e y.e = true)) (fun i _ => n + 1 - (intOf i).toNat)
  case atStart => exact ⟨0, by omega, rfl, Below.refl _ _, fun j x y hj => by omega⟩
  case round =>
    obtain ⟨k, hk, rfl, hI⟩ := hrel
    have HB := keep hI.out.1
    have hL : Hid (Left wr B (some ⟨b, off, none⟩) n c) := (HB.out.block B (Array.getElem?_eq_some_iff.1 HL.out).1).trans HL.out
    have c0 := hL.out.cell
    have hS := keep (HS.out.below entKind_ok HB.out)
    have FIN : Hid (∀ W', Below w.heap.size w W' → Calls Try.prog 48 #[.pointer (some ⟨B, 0, none⟩), .int .i64 ((k : Int) + 1)] W' fun e w' => ∃ p', e = .returned (.slice (some ⟨b, off, none⟩) (k + 1) c) ∧ Left w' B p' (n - (k + 1)) (c - (k + 1)) ∧ w.grownBy w' (some B) ∧ (p' = some ⟨b, off + (k + 1) * 4, none⟩ ∧ k + 1 < c ∨ p' = some ⟨b, off, none⟩ ∧ k + 1 = n)) := fun W' hb => by
      have hl' : Left W' B (some ⟨b, off, none⟩) n c := (hb.block B (Array.getElem?_eq_some_iff.1 HL.out).1).trans HL.out
      have := take_any B b off n c (k + 1) es W' hl' (HS.out.below entKind_ok hb) hk HC.out
      rw [show ((k + 1 : Nat) : Int) = (k : Int) + 1 by omega] at this
      refine this.mono ?_
      rintro e w' ⟨p', rfl, rfl, hp⟩
      refine ⟨p', rfl, hl'.set _ _ _, ?_, hp⟩
      have hg := set_grown W' B 0 (.slice p' (n - (k + 1)) (c - (k + 1)))
      exact ⟨hg.os.trans hb.os, hg.tape.trans hb.tape, hg.output.trans hb.output, Nat.le_trans hb.size hg.size, fun j hj hne => (hg.block j (Nat.lt_of_lt_of_le hj hb.size) hne).trans (hb.block j hj)⟩
    rcases Nat.lt_or_ge (k + 1) n with hlt | hge
    · obtain ⟨x, hx⟩ : ∃ x, es[k]? = some x := ⟨es[k]'(by rw [hlen.out]; omega), List.getElem?_eq_getElem _⟩
      obtain ⟨y, hy⟩ : ∃ y, es[k + 1]? = some y := ⟨es[k + 1]'(by rw [hlen.out]; omega), List.getElem?_eq_getElem _⟩
      obtain ⟨p0, p1, p2, p3⟩ := ent_cells hS.out hx
      obtain ⟨r0, r1, r2, r3⟩ := ent_cells hS.out hy
      have TT : Hid (∀ w', Below wr.heap.size wr w' → Calls Try.prog F #[ev x, ev y] w' fun e w'' => e = .returned (.bool (q x.e y.e)) ∧ Below wr.heap.size wr w'') := fun w' hb => by
        refine (HT.out x y w' (entKind_ok.below (hS.out.held x (List.mem_of_getElem? hx)) hb) (entKind_ok.below (hS.out.held y (List.mem_of_getElem? hy)) hb)).mono ?_
        rintro e w'' ⟨rfl, hb'⟩
        exact ⟨rfl, hb.trans (hb'.mono hb.size)⟩
      have HX := keep hx
      have HY := keep hy
      obtain ⟨r, hr⟩ : ∃ r, q x.e y.e = r := ⟨_, rfl⟩
      have HR := keep hr
      rw [hr] at TT
      clear hx hy hr
      obtain ⟨xkp, xkc, xvp, xvc, ⟨xkey, xseq, xgone, xval⟩⟩ := x
      obtain ⟨ykp, ykc, yvp, yvc, ⟨ykey, yseq, ygone, yval⟩⟩ := y
      unfold ev at TT
      simp only at TT p0 p1 p2 p3 r0 r1 r2 r3
      have d1 : decide ((k : Int) + 1 < (n : Int)) = true := decide_eq_true (by omega)
      have ll : (k : Int) + 1 < (n : Int) := by omega
      have l0 : (0 : Int) ≤ (k : Int) + 1 := by omega
      have ll2 : (k : Int) < (n : Int) := by omega
      have l02 : (0 : Int) ≤ (k : Int) := by omega
      have lw : IntKind.i64.wrap ((k : Int)) = (k : Int) := wrap_small _ (by omega) (by omega)
      go_wp2_with fail
      go_region_held3 (fun w' => w'.cell? ⟨B, 0, none⟩ = some (.slice (some ⟨b, off, none⟩) n c) ∧ w'.cell? ⟨b, off + k * 4, none⟩ = some (.slice xkp xkey.length xkc) ∧ w'.cell? ⟨b, off + k * 4 + 1, none⟩ = some (.int .i64 xseq) ∧ w'.cell? ⟨b, off + k * 4 + 2, none⟩ = some (.bool xgone) ∧ w'.cell? ⟨b, off + k * 4 + 3, none⟩ = some (.slice xvp xval.length xvc) ∧ w'.cell? ⟨b, off + (k + 1) * 4, none⟩ = some (.slice ykp ykey.length ykc) ∧ w'.cell? ⟨b, off + (k + 1) * 4 + 1, none⟩ = some (.int .i64 yseq) ∧ w'.cell? ⟨b, off + (k + 1) * 4 + 2, none⟩ = some (.bool ygone) ∧ w'.cell? ⟨b, off + (k + 1) * 4 + 3, none⟩ = some (.slice yvp yval.length yvc))
        (first | exact ⟨c0, p0, p1, p2, p3, r0, r1, r2, r3⟩ | exact ⟨below_cell b4.out c0, below_cell b4.out p0, below_cell b4.out p1, below_cell b4.out p2, below_cell b4.out p3, below_cell b4.out r0, below_cell b4.out r1, below_cell b4.out r2, below_cell b4.out r3⟩)
        ((go_at_fn F; refine (TT.out _ ((Below.refl _ _).drew)).mono ?_; rintro e w4 ⟨rfl, hb4⟩; have b4 := keep hb4; clear hb4))
      cases r with
      | true =>
        go_wp2
        go_roundw
        case rel => exact ⟨k + 1, by omega, by go_num, HB.out.trans (b4.out.mono HB.out.size), fun j x y hj h1 h2 => by
          rcases Nat.lt_or_ge j k with h | h
          · exact hI.out.2 j x y h h1 h2
          · obtain rfl : j = k := by omega
            rw [HX.out] at h1
            rw [HY.out] at h2
            cases h1
            cases h2
            exact HR.out⟩
        case measure => simp [intOf]; omega
      | false =>
        have PT := keep (Mg.parts_take (p := fun x y : EV => q x.e y.e) k es (by rw [hlen.out]; omega) hI.out.2 (fun x y h1 h2 => by
          rw [HX.out] at h1
          rw [HY.out] at h2
          cases h1
          cases h2
          exact HR.out))
        have F4 := keep (FIN.out w4 (HB.out.trans (b4.out.mono HB.out.size)))
        go_wp2_with fail
        refine F4.out.mono ?_
        rintro e w5 ⟨p', rfl, h1, h2, h3⟩
        have Q1 := keep h1
        have Q2 := keep h2
        have Q3 := keep h3
        clear h1 h2 h3
        go_wp2
        go_ret
        exact ⟨p', k + 1, rfl, by omega, hk, Q1.out, Q2.out, Q3.out, PT.out⟩
    · have PT := keep (Mg.parts_take (p := fun x y : EV => q x.e y.e) k es (by rw [hlen.out]; omega) hI.out.2 (fun x y h1 h2 => by
        have := (List.getElem?_eq_some_iff.1 h2).1
        rw [hlen.out] at this
        omega))
      have d1 : decide ((k : Int) + 1 < (n : Int)) = false := decide_eq_false (by omega)
      have d2 : ¬ ((k : Int) + 1 < (n : Int)) := by omega
      go_wp2_with fail
      go_quiet (fail)
      have F4 := keep (FIN.out (wr.drewN nq) (below_drewN HB.out _))
      go_wp2_with fail
      refine F4.out.mono ?_
      rintro e w5 ⟨p', rfl, h1, h2, h3⟩
      have Q1 := keep h1
      have Q2 := keep h2
      have Q3 := keep h3
      clear h1 h2 h3
      go_wp2
      go_ret
      exact ⟨p', k + 1, rfl, by omega, hk, Q1.out, Q2.out, Q3.out, PT.out⟩
end Go.Proofs.Ytgdggeacjfhkkaa
