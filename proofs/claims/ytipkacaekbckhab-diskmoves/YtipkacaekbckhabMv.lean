/- The walk of DiskMoves. -/
import Derived.Test.YtipkacaekbckhabPz
namespace Go.Proofs.Ytipkacaekbckhab
open Go.RowKit
open Dk (File Disk)

set_option maxHeartbeats 4000000 in
set_option maxRecDepth 100000 in
theorem diskMoves_walk (ao : Option Addr) (m c : Nat) (es : List OpE) (a b2 : List UInt8) (W0 : World) (hs : RSrc opKind W0 ao m c es) (hc : c ≤ maxLen) (hf : ∀ e ∈ es, Fine e) (hla : a.length ≤ maxLen) (_hlb : b2.length ≤ maxLen) :
    Calls Try.prog 3 #[.slice ao m c, .string ⟨a.toArray⟩, .string ⟨b2.toArray⟩] W0 fun e w' => e = .returned (.bool true) ∧ Below W0.heap.size W0 w' := by
  have ha := keep (awake_any W0)
  have HP : Hid (∀ w1, Below W0.heap.size W0 w1 → Calls Try.prog 6 #[.slice ao m c] w1 fun e w' => ∃ S b d, e = .returned (.pointer (some ⟨b, 0, none⟩)) ∧ Own w1 S w' b d ∧ d.cap = 1048575 ∧ d.done ≤ 100) := fun w1 hb => (played_is ao m c es w1 (hs.below opKind_ok hb) hc hf).mono (by
    rintro e w' ⟨S, b, rfl, hO, hcap, hdn⟩
    exact ⟨S, b, _, rfl, hO, hcap, hdn⟩)
  have LA := keep hla
  clear hs hf hc hla
  go_enter Try.func3, Try.ntmps3
  go_wp2_with fail
  refine ha.out.mono ?_
  rintro e w1 ⟨rfl, hb1⟩
  have B1 := keep hb1
  clear hb1 ha
  go_wp2_with fail
  refine (HP.out w1 B1.out).mono ?_
  rintro e w2 ⟨S, b, d, rfl, hO, hcap, hdn⟩
  have O2 : Hid (Own W0 S w2 b d) := ⟨hO.mem, fun g hg => Nat.le_trans B1.out.size (hO.news g hg), Nat.le_trans B1.out.size hO.at_, B1.out.trans (hO.bel.mono B1.out.size)⟩
  have HG : Hid (Dk.Good d) := by obtain ⟨_, _, _, h⟩ := hO.mem; exact h.good
  have HDN : Hid (d.done ≤ 4611686018427387904) := Nat.le_trans hdn (by omega)
  have hm2 : Hid (∀ g, Go.Proofs.Ytipkacaekbckhab.mine S b g → g < w2.heap.size) := fun g hg => (O2.out.mines g hg).2
  obtain ⟨N, hN⟩ : ∃ N, d.files.length = N := ⟨_, rfl⟩
  have HN := keep hN
  have hNs : N ≤ 1048575 := by
    have h1 := used_ge d.files
    have h2 := HG.out.room
    omega
  clear hO hcap hdn HP B1 hN
  go_wp2_with fail
  refine (dump_mem S b d w2 O2.out.mem).mono ?_
  rintro e w3 ⟨a3, n3, f3, rfl, _, hst, hpl, hb⟩
  rw [HN.out] at hst ⊢
  have R3 : Hid (Rows4 (Old w2.heap.size) w3 a3 N n3 f3 d.files) := ⟨hst, hpl, HN.out.symm⟩
  have O3 := keep (O2.out.next hb)
  have s3 := keep hb.size
  clear hst hpl hb O2
  go_wp2_with fail
  refine (theirs_any _ a3 N n3 f3 _ _ R3.out (by omega) (fun g hg => Nat.lt_of_lt_of_le hg s3.out)).mono ?_
  rintro e w4 ⟨a4, n4, f4, rfl, hr, hb⟩
  have R4 := keep hr
  have O4 := keep (O3.out.next hb)
  clear hr hb R3 O3 s3
  go_wp2_with fail
  have C5 := rename_raw S b d a b2 _ O4.out.mem HDN.out []
  refine C5.mono ?_
  intro e w5 hr
  obtain ⟨rfl, hq5⟩ := O4.out.raw hr
  have O5 := keep hq5
  have R5 : Hid (Rows4 (Old w2.heap.size) w5 a4 N n4 f4 d.files) := R4.out.next (hr.2.2.wide (fun g _ hg => hm2.out g hg))
  have MV : Hid ((Dk.raw d 2 a b2 []).1 = 0 → ∃ f, Dk.look d.files a = some f ∧ Dk.look (Dk.raw d 2 a b2 []).2.files b2 = some { f with name := b2 } ∧ ((Dk.look (Dk.raw d 2 a b2 []).2.files a).isSome = true ↔ a = b2)) := fun h => Dk.rename_moves HG.out h
  have RF : Hid ((Dk.raw d 2 a b2 []).1 ≠ 0 → (Dk.raw d 2 a b2 []).2.files = d.files) := fun h => Dk.raw_refused h
  generalize more S w4 w5 = S5 at O5
  generalize Dk.raw d 2 a b2 [] = X at *
  obtain ⟨xe, D⟩ := X
  simp only at O5 MV RF ⊢
  have HG5 : Hid (Dk.Good D ∧ D.cap ≤ 1099511627776) := by obtain ⟨_, _, _, h⟩ := O5.out.mem; exact ⟨h.good, h.capb⟩
  obtain ⟨N5, hN5⟩ : ∃ N5, D.files.length = N5 := ⟨_, rfl⟩
  have HN5 := keep hN5
  have hN5s : N5 ≤ 1099511627776 := by
    have h1 := used_ge D.files
    have h2 := HG5.out.1.room
    have h3 := HG5.out.2
    omega
  clear C5 hr hq5 hN5 R4 O4
  go_wp2_with fail
  refine (dump_mem S5 b D w5 O5.out.mem).mono ?_
  rintro e w6 ⟨a6, n6, f6, rfl, _, hst, hpl, hb⟩
  rw [HN5.out] at hst ⊢
  have R6 : Hid (Rows4 (Old w5.heap.size) w6 a6 N5 n6 f6 D.files) := ⟨hst, hpl, HN5.out.symm⟩
  have O6 := keep (O5.out.next hb)
  have RB6 := keep (R5.out.below hb)
  have s6 := keep hb.size
  clear hst hpl hb O5 R5
  go_wp2_with fail
  refine (theirs_any _ a6 N5 n6 f6 _ _ R6.out (by omega) (fun g hg => Nat.lt_of_lt_of_le hg s6.out)).mono ?_
  rintro e w7 ⟨a7, n7, f7, rfl, hr, hb⟩
  have R7 := keep hr
  have RB := keep (RB6.out.below hb)
  have O7 := keep (O6.out.next hb)
  have B7 : Hid (Below W0.heap.size W0 w7) := O7.out.bel
  clear hr hb R6 O6 RB6 s6
  by_cases hx : xe = 0
  case neg =>
    have x1 : ((xe : Int) == 0) = false := by rw [beq_eq_false_iff_ne]; omega
    have SF := same_files a4 N n4 f4 d.files _ a7 N5 n7 f7 D.files _ w7 RB.out R7.out (by omega)
    have EQ := keep (RF.out hx)
    clear hx MV RF
    go_wp2_with fail
    refine SF.mono ?_
    rintro e w8 ⟨⟨x, rfl, hxx⟩, hb8⟩
    obtain rfl : x = true := hxx.2 EQ.out.symm
    have B8 := keep (B7.out.trans (hb8.mono B7.out.size))
    clear SF hb8 hxx
    go_wp2
    go_ret
    exact ⟨rfl, B8.out⟩
  subst hx
  obtain ⟨f, hlf, hlg, hlh⟩ := MV.out rfl
  have LF := keep hlf
  have LG := keep hlg
  have LH := keep hlh
  clear MV RF hlf hlg hlh
  have k4 : N ≤ n4 := RB.out.here.cap
  have k7 : N5 ≤ n7 := R7.out.here.cap
  go_wp2_with fail
  go_loopw [12] (fun i wr => ∃ t : Nat, t ≤ N ∧ i = .int .i64 (t : Int) ∧ Hid (∀ f' ∈ d.files.take t, f'.name ≠ a) ∧ Hid (Below w7.heap.size w7 wr)) (fun i _ => N - (intOf i).toNat)
  case atStart => exact ⟨0, Nat.zero_le _, rfl, fun f' hf' => by simp at hf', Below.refl _ _⟩
  case round =>
    obtain ⟨t, ht, rfl, hno, hb⟩ := hrel
    have t0 : (0 : Int) ≤ (t : Int) := by omega
    rcases Nat.lt_or_ge t N with hlt | hge
    · have t1 : (t : Int) < (N : Int) := by omega
      obtain ⟨g, hg⟩ : ∃ g, d.files[t]? = some g := ⟨d.files[t]'(by rw [HN.out]; exact hlt), List.getElem?_eq_getElem _⟩
      have hmem := List.mem_of_getElem? hg
      have hlk := Dk.look_mem HG.out.rising hmem
      obtain ⟨ba, oa, rfl, _, hat⟩ := RB.out.at_ (by omega)
      obtain ⟨p1, q1, he1, v0, v1, v2⟩ := hat t g hg
      have z0 := below_cell hb.out v0
      by_cases h1 : g.name = a
      · rw [h1, LF.out] at hlk
        obtain rfl : f = g := Option.some.inj hlk
        have hsr := keep ((RB.out.held (List.mem_of_getElem? he1)).here)
        obtain ⟨nm, sf, fb⟩ := f
        simp only at h1 z0 v1 v2 LG
        subst h1
        clear hat hg hmem hlk he1 v0 hno
        have y1 : (nm == nm) = true := by simp
        go_wp2_with fail
        go_loopw [13] (fun k wi => ∃ u : Nat, u ≤ N5 ∧ k = .int .i64 (u : Int) ∧ Hid (∀ f' ∈ D.files.take u, f'.name ≠ b2) ∧ Hid (Below w7.heap.size w7 wi)) (fun k _ => N5 - (intOf k).toNat)
        case atStart => exact ⟨0, Nat.zero_le _, rfl, fun f' hf' => by simp at hf', hb⟩
        case round =>
          obtain ⟨u, hu, rfl, hnu, hbi⟩ := hrel
          have u0 : (0 : Int) ≤ (u : Int) := by omega
          rcases Nat.lt_or_ge u N5 with hul | hug
          · have u1 : (u : Int) < (N5 : Int) := by omega
            obtain ⟨h, hh⟩ : ∃ h, D.files[u]? = some h := ⟨D.files[u]'(by rw [HN5.out]; exact hul), List.getElem?_eq_getElem _⟩
            have hmem := List.mem_of_getElem? hh
            have hlk := Dk.look_mem HG5.out.1.rising hmem
            obtain ⟨bc, oc, rfl, _, hat⟩ := R7.out.at_ (by omega)
            obtain ⟨p2, q2, he2, e0, e1, e2⟩ := hat u h hh
            have x0 := below_cell hbi.out e0
            by_cases h2 : h.name = b2
            · rw [h2, LG.out] at hlk
              obtain rfl : _ = h := Option.some.inj hlk
              have hsr2 := keep ((R7.out.held (List.mem_of_getElem? he2)).here)
              simp only at x0 e1 e2 hsr2
              clear hat hh hmem hlk he2 e0 h2
              have KS : Hid (∀ w', Below w7.heap.size w7 w' → Below w7.heap.size w7 w' ∧ w'.cell? ⟨ba, oa + t * 3 + 1, none⟩ = some (.int .i64 (sf : Int)) ∧ w'.cell? ⟨ba, oa + t * 3 + 2, none⟩ = some (.slice p1 fb.length q1) ∧ w'.cell? ⟨bc, oc + u * 3 + 1, none⟩ = some (.int .i64 (sf : Int)) ∧ w'.cell? ⟨bc, oc + u * 3 + 2, none⟩ = some (.slice p2 fb.length q2) ∧ (convert 33 9 (.slice p1 fb.length q1)).run Try.prog w' = .ok (.string ⟨fb.toArray⟩) w' ∧ (convert 33 9 (.slice p2 fb.length q2)).run Try.prog w' = .ok (.string ⟨fb.toArray⟩) w') := fun w' hb' => ⟨hb', below_cell hb' v1, below_cell hb' v2, below_cell hb' e1, below_cell hb' e2, conv_src ((hsr.out : Src w7 p1 fb.length q1 fb).below hb'), conv_src ((hsr2.out : Src w7 p2 fb.length q2 fb).below hb')⟩
              have y2 : (fb == fb) = true := by simp
              have HB : Hid (∀ w', Below w7.heap.size w7 w' → Calls Try.prog 11 #[.pointer (some ⟨b, 0, none⟩), .string ⟨nm.toArray⟩] w' fun e w'' => e = .returned (.bool (decide (nm = b2))) ∧ Below w'.heap.size w' w'') := fun w' hb' => by
                have h3 := has_mem S5 b D nm w' (O7.out.next hb').mem LA.out
                have h4 : (Dk.look D.files nm).isSome = decide (nm = b2) := by
                  by_cases h5 : nm = b2
                  · rw [decide_eq_true h5]; exact LH.out.2 h5
                  · rw [decide_eq_false h5, Bool.eq_false_iff]; exact fun h6 => h5 (LH.out.1 h6)
                rw [h4] at h3
                exact h3
              have y3 : (nm == b2) = decide (nm = b2) := list_beq nm b2
              clear v1 v2 e1 e2 z0
              go_wp2_with fail
              go_region_held3 (fun w' => Below w7.heap.size w7 w' ∧ w'.cell? ⟨ba, oa + t * 3 + 1, none⟩ = some (.int .i64 (sf : Int)) ∧ w'.cell? ⟨ba, oa + t * 3 + 2, none⟩ = some (.slice p1 fb.length q1) ∧ w'.cell? ⟨bc, oc + u * 3 + 1, none⟩ = some (.int .i64 (sf : Int)) ∧ w'.cell? ⟨bc, oc + u * 3 + 2, none⟩ = some (.slice p2 fb.length q2) ∧ (convert 33 9 (.slice p1 fb.length q1)).run Try.prog w' = .ok (.string ⟨fb.toArray⟩) w' ∧ (convert 33 9 (.slice p2 fb.length q2)).run Try.prog w' = .ok (.string ⟨fb.toArray⟩) w')
                (first | exact KS.out _ hbi.out | exact KS.out _ b8.out | exact KS.out _ hbi.out.drew | exact KS.out _ b8.out.drew | (refine KS.out _ ?_; first | exact hbi.out.trans (below_drewN _ _ _) | (refine Below.drew ?_; assumption)))
                (first
                  | (go_at_call 11; refine (HB.out _ (by first | exact hbi.out | exact hbi.out.drew | assumption)).mono ?_; rintro e w8 ⟨rfl, hb8⟩; have b8 : Hid (Below w7.heap.size w7 w8) := by { first | exact hbi.out.drew.trans (hb8.mono hbi.out.drew.size) | exact hbi.out.trans (hb8.mono hbi.out.size) | (refine Below.trans ?_ (hb8.mono ?_) <;> first | assumption | (refine Below.size ?_; assumption)) }; clear hb8))
              go_wp2
              go_ret
              exact ⟨by first | rfl | simp [y3], B7.out.trans (b8.out.mono B7.out.size)⟩
            · have y2 : (h.name == b2) = false := by simpa using h2
              have hn2 : Hid (∀ f' ∈ D.files.take (u + 1), f'.name ≠ b2) := fun f' hf' => by
                rw [List.take_add_one, hh, List.mem_append] at hf'
                rcases hf' with hf' | hf'
                · exact hnu.out f' hf'
                · have : f' = h := by simpa using hf'
                  rw [this]; exact h2
              clear hat hh hmem hlk he2 e0 e1 e2 h2
              go_wp2
              go_roundw
              case rel => exact ⟨u + 1, by omega, by first | rfl | go_num, hn2, hbi⟩
              case measure => simp [intOf]; omega
          · exfalso
            have h3 := (Dk.look_some LG.out).1
            exact hnu.out _ (by rw [List.take_of_length_le (by rw [HN5.out]; exact hug)]; exact h3) rfl
      · have y1 : (g.name == a) = false := by simpa using h1
        have hn2 : Hid (∀ f' ∈ d.files.take (t + 1), f'.name ≠ a) := fun f' hf' => by
          rw [List.take_add_one, hg, List.mem_append] at hf'
          rcases hf' with hf' | hf'
          · exact hno.out f' hf'
          · have : f' = g := by simpa using hf'
            rw [this]; exact h1
        clear hat hg hmem hlk he1 v0 v1 v2 h1
        go_wp2
        go_roundw
        case rel => exact ⟨t + 1, by omega, by first | rfl | go_num, hn2, hb⟩
        case measure => simp [intOf]; omega
    · exfalso
      have h3 := Dk.look_some LF.out
      exact hno.out _ (by rw [List.take_of_length_le (by rw [HN.out]; exact hge)]; exact h3.1) h3.2
end Go.Proofs.Ytipkacaekbckhab
