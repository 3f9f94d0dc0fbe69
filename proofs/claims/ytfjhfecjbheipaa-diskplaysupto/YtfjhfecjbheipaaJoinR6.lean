/- The walks of the document's Remove and Sync. -/
/- The walk of the document's Append: no room, or the cut. -/
/- The walk of the document's Append: it is done. -/
import Derived.Test.YtfjhfecjbheipaaR3
namespace Go.Proofs.Ytfjhfecjbheipaa
open Go.RowKit
open Dk (File Disk)

set_option maxHeartbeats 1000000 in
set_option maxRecDepth 100000 in
theorem rremove_arg (F : Nat → Prop) (q : Nat) (r : Disk) (n : List UInt8) (w : World) (h : Ref F w q r) (hn : Dk.named n = false) :
    Calls Try.prog 35 #[.pointer (some ⟨q, 0, none⟩), .string ⟨n.toArray⟩] w fun e w' => e = .returned (.int .i64 1) ∧ Below w.heap.size w w' := by
  obtain ⟨ao, nn, c, es, h⟩ := h
  have HM := keep h
  clear h
  go_enter Try.func35, Try.ntmps35
  go_wp2_with fail
  refine (rnamed_any n _).mono ?_
  rintro e w1 ⟨rfl, hb⟩
  have b1 := keep hb
  clear hb
  rw [hn]
  go_wp2_with fail
  refine (rright_any false q _ _ _ _ r.dark _ (HM.out.below b1.out).box).mono ?_
  rintro e w2 ⟨rfl, hb⟩
  have b2 := keep (b1.out.trans (hb.mono b1.out.size))
  clear hb
  go_wp2
  go_ret
  exact ⟨rfl, b2.out⟩
set_option maxHeartbeats 1000000 in
set_option maxRecDepth 100000 in
theorem rremove_dark (F : Nat → Prop) (q : Nat) (r : Disk) (n : List UInt8) (w : World) (h : Ref F w q r) (hn : Dk.named n = true) (hd : r.dark = true) :
    Calls Try.prog 35 #[.pointer (some ⟨q, 0, none⟩), .string ⟨n.toArray⟩] w fun e w' => e = .returned (.int .i64 5) ∧ Below w.heap.size w w' := by
  obtain ⟨ao, nn, c, es, h⟩ := h
  have HM := keep h
  clear h
  have HD := keep hd
  clear hd
  go_enter Try.func35, Try.ntmps35
  go_wp2_with fail
  refine (rnamed_any n _).mono ?_
  rintro e w1 ⟨rfl, hb⟩
  have b1 := keep hb
  clear hb
  rw [hn]
  go_wp2_with fail
  refine (rright_any true q _ _ _ _ r.dark _ (HM.out.below b1.out).box).mono ?_
  rintro e w2 ⟨rfl, hb⟩
  have b2 := keep (b1.out.trans (hb.mono b1.out.size))
  clear hb
  rw [HD.out]
  go_wp2
  go_ret
  exact ⟨rfl, b2.out⟩
set_option maxHeartbeats 1000000 in
set_option maxRecDepth 100000 in
theorem rremove_none (F : Nat → Prop) (q : Nat) (r : Disk) (n : List UInt8) (w : World) (h : Ref F w q r) (hn : Dk.named n = true) (hd : r.dark = false) (hx : Dk.look r.files n = none) :
    Calls Try.prog 35 #[.pointer (some ⟨q, 0, none⟩), .string ⟨n.toArray⟩] w fun e w' => e = .returned (.int .i64 3) ∧ Below w.heap.size w w' := by
  obtain ⟨ao, nn, c, es, h⟩ := h
  have HM := keep h
  clear h
  have HD := keep hd
  have HX := keep hx
  clear hd hx
  go_enter Try.func35, Try.ntmps35
  go_wp2_with fail
  refine (rnamed_any n _).mono ?_
  rintro e w1 ⟨rfl, hb⟩
  have b1 := keep hb
  clear hb
  rw [hn]
  go_wp2_with fail
  refine (rright_any true q _ _ _ _ r.dark _ (HM.out.below b1.out).box).mono ?_
  rintro e w2 ⟨rfl, hb⟩
  have b2 := keep (b1.out.trans (hb.mono b1.out.size))
  clear hb
  rw [HD.out]
  go_wp2_with fail
  refine (rhas_any _ q ao nn c es r.files n _ (HM.out.below b2.out).box.c1 (HM.out.below b2.out).rows HM.out.few).mono ?_
  rintro e w3 ⟨rfl, hb⟩
  have b3 := keep (b2.out.trans (hb.mono b2.out.size))
  clear hb
  rw [HX.out]
  go_wp2
  go_ret
  exact ⟨rfl, b3.out⟩
set_option maxHeartbeats 1000000 in
set_option maxRecDepth 100000 in
theorem rremove_cut (F : Nat → Prop) (q : Nat) (r : Disk) (n nm : List UInt8) (sf : Nat) (fb : List UInt8) (w : World) (h : Ref F w q r) (hn : Dk.named n = true) (hd : r.dark = false) (hx : Dk.look r.files n = some ⟨nm, sf, fb⟩) (ho0 : r.done ≤ 4611686018427387904) (ht : (Dk.tick r).1 = false) :
    Calls Try.prog 35 #[.pointer (some ⟨q, 0, none⟩), .string ⟨n.toArray⟩] w fun e w' => RefPost F w q (5, (Dk.tick r).2) e w' := by
  obtain ⟨ao, nn, c, es, h⟩ := h
  have HM := keep h
  clear h
  have HD := keep hd
  have HX := keep hx
  clear hd hx
  have HT := keep ht
  clear ht
  go_enter Try.func35, Try.ntmps35
  go_wp2_with fail
  refine (rnamed_any n _).mono ?_
  rintro e w1 ⟨rfl, hb⟩
  have b1 := keep hb
  clear hb
  rw [hn]
  go_wp2_with fail
  refine (rright_any true q _ _ _ _ r.dark _ (HM.out.below b1.out).box).mono ?_
  rintro e w2 ⟨rfl, hb⟩
  have b2 := keep (b1.out.trans (hb.mono b1.out.size))
  clear hb
  rw [HD.out]
  go_wp2_with fail
  refine (rhas_any _ q ao nn c es r.files n _ (HM.out.below b2.out).box.c1 (HM.out.below b2.out).rows HM.out.few).mono ?_
  rintro e w3 ⟨rfl, hb⟩
  have b3 := keep (b2.out.trans (hb.mono b2.out.size))
  clear hb
  rw [HX.out]
  go_wp2_with fail
  refine (rstep_ref F q ao nn c es r _ (HM.out.below b3.out) HD.out ho0).mono ?_
  rintro e w5 ⟨rfl, hr5, hk5⟩
  rw [HT.out]
  have R5 := keep hr5
  have K5 := keep ((Kept.of_below (U := At q) b3.out).trans hk5)
  clear hr5 hk5
  go_wp2
  go_ret
  exact ⟨rfl, ⟨_, _, _, _, R5.out⟩, K5.out⟩
set_option maxHeartbeats 1000000 in
set_option maxRecDepth 100000 in
theorem rremove_go (F : Nat → Prop) (q : Nat) (r : Disk) (n nm : List UInt8) (sf : Nat) (fb : List UInt8) (w : World) (h : Ref F w q r) (hn : Dk.named n = true) (hd : r.dark = false) (hx : Dk.look r.files n = some ⟨nm, sf, fb⟩) (ho0 : r.done ≤ 4611686018427387904) (ht : (Dk.tick r).1 = true) :
    Calls Try.prog 35 #[.pointer (some ⟨q, 0, none⟩), .string ⟨n.toArray⟩] w fun e w' => RefPost F w q (0, { (Dk.tick r).2 with files := Dk.drop r.files n }) e w' := by
  obtain ⟨ao, nn, c, es, h⟩ := h
  have HM := keep h
  clear h
  have HD := keep hd
  have HX := keep hx
  clear hd hx
  have HT := keep ht
  clear ht
  go_enter Try.func35, Try.ntmps35
  go_wp2_with fail
  refine (rnamed_any n _).mono ?_
  rintro e w1 ⟨rfl, hb⟩
  have b1 := keep hb
  clear hb
  rw [hn]
  go_wp2_with fail
  refine (rright_any true q _ _ _ _ r.dark _ (HM.out.below b1.out).box).mono ?_
  rintro e w2 ⟨rfl, hb⟩
  have b2 := keep (b1.out.trans (hb.mono b1.out.size))
  clear hb
  rw [HD.out]
  go_wp2_with fail
  refine (rhas_any _ q ao nn c es r.files n _ (HM.out.below b2.out).box.c1 (HM.out.below b2.out).rows HM.out.few).mono ?_
  rintro e w3 ⟨rfl, hb⟩
  have b3 := keep (b2.out.trans (hb.mono b2.out.size))
  clear hb
  rw [HX.out]
  go_wp2_with fail
  refine (rstep_ref F q ao nn c es r _ (HM.out.below b3.out) HD.out ho0).mono ?_
  rintro e w5 ⟨rfl, hr5, hk5⟩
  rw [HT.out]
  have R5 := keep hr5
  have K5 := keep ((Kept.of_below (U := At q) b3.out).trans hk5)
  clear hr5 hk5
  go_wp2_with fail
  refine (rdrop_any (beside F q) q _ ao nn c es _ _ _ _ n _ R5.out.box R5.out.rows R5.out.few (.inr rfl) R5.out.inside).mono ?_
  rintro e w6 ⟨rfl, ⟨ao', c', es', hb6, hr6⟩, hk6⟩
  have hgood : Dk.Good { (Dk.tick r).2 with files := Dk.drop r.files n } := by
    have h1 := Dk.raw_good 3 n [] [] HM.out.good
    rw [Dk.raw_do (l := Dk.drop r.files n) (by exact hn) HD.out (by simp only [Dk.planOf, Dk.planRemove, HX.out]), Dk.write_go HT.out] at h1
    exact h1
  rw [(Dk.tick_files r).1] at hb6 hr6
  have FIN := keep (R5.out.files hk6 hb6 hr6 hgood)
  have K6 := keep (K5.out.trans hk6)
  clear hb6 hr6 hk6 hgood
  go_wp2
  go_ret
  exact ⟨rfl, ⟨_, _, _, _, FIN.out⟩, K6.out⟩
theorem rremove_raw (F : Nat → Prop) (q : Nat) (r : Disk) (n : List UInt8) (w : World) (h : Ref F w q r) (ho : r.done ≤ 4611686018427387904) (x y : List UInt8) :
    Calls Try.prog 35 #[.pointer (some ⟨q, 0, none⟩), .string ⟨n.toArray⟩] w fun e w' => RefPost F w q (Dk.raw r 3 n x y) e w' := by
  have stay : ∀ w', Below w.heap.size w w' → Ref F w' q r ∧ Kept (At q) w w' := fun w' hb => by
    obtain ⟨_, _, _, _, h⟩ := h
    exact h.stay hb
  cases hna : Dk.named n with
  | false =>
    rw [Dk.raw_arg (by exact hna)]
    refine (rremove_arg F q r n w h hna).mono ?_
    rintro e w' ⟨rfl, hb⟩
    exact ⟨rfl, stay w' hb⟩
  | true =>
    cases hd : r.dark with
    | true =>
      rw [Dk.raw_dark (by exact hna) hd]
      refine (rremove_dark F q r n w h hna hd).mono ?_
      rintro e w' ⟨rfl, hb⟩
      exact ⟨rfl, stay w' hb⟩
    | false =>
      cases hx : Dk.look r.files n with
      | none =>
        rw [Dk.raw_own (e := 3) (by exact hna) hd (by simp only [Dk.planOf, Dk.planRemove, hx])]
        refine (rremove_none F q r n w h hna hd hx).mono ?_
        rintro e w' ⟨rfl, hb⟩
        exact ⟨rfl, stay w' hb⟩
      | some f =>
        obtain ⟨nm, sf, fb⟩ := f
        rw [Dk.raw_do (l := Dk.drop r.files n) (by exact hna) hd (by simp only [Dk.planOf, Dk.planRemove, hx])]
        cases ht : (Dk.tick r).1 with
        | false => rw [Dk.write_cut ht]; exact rremove_cut F q r n nm sf fb w h hna hd hx ho ht
        | true => rw [Dk.write_go ht]; exact rremove_go F q r n nm sf fb w h hna hd hx ho ht
set_option maxHeartbeats 1000000 in
set_option maxRecDepth 100000 in
theorem rsync_arg (F : Nat → Prop) (q : Nat) (r : Disk) (n : List UInt8) (w : World) (h : Ref F w q r) (hn : Dk.named n = false) :
    Calls Try.prog 31 #[.pointer (some ⟨q, 0, none⟩), .string ⟨n.toArray⟩] w fun e w' => e = .returned (.int .i64 1) ∧ Below w.heap.size w w' := by
  obtain ⟨ao, nn, c, es, h⟩ := h
  have HM := keep h
  clear h
  go_enter Try.func31, Try.ntmps31
  go_wp2_with fail
  refine (rnamed_any n _).mono ?_
  rintro e w1 ⟨rfl, hb⟩
  have b1 := keep hb
  clear hb
  rw [hn]
  go_wp2_with fail
  refine (rright_any false q _ _ _ _ r.dark _ (HM.out.below b1.out).box).mono ?_
  rintro e w2 ⟨rfl, hb⟩
  have b2 := keep (b1.out.trans (hb.mono b1.out.size))
  clear hb
  go_wp2
  go_ret
  exact ⟨rfl, b2.out⟩
set_option maxHeartbeats 1000000 in
set_option maxRecDepth 100000 in
theorem rsync_dark (F : Nat → Prop) (q : Nat) (r : Disk) (n : List UInt8) (w : World) (h : Ref F w q r) (hn : Dk.named n = true) (hd : r.dark = true) :
    Calls Try.prog 31 #[.pointer (some ⟨q, 0, none⟩), .string ⟨n.toArray⟩] w fun e w' => e = .returned (.int .i64 5) ∧ Below w.heap.size w w' := by
  obtain ⟨ao, nn, c, es, h⟩ := h
  have HM := keep h
  clear h
  have HD := keep hd
  clear hd
  go_enter Try.func31, Try.ntmps31
  go_wp2_with fail
  refine (rnamed_any n _).mono ?_
  rintro e w1 ⟨rfl, hb⟩
  have b1 := keep hb
  clear hb
  rw [hn]
  go_wp2_with fail
  refine (rright_any true q _ _ _ _ r.dark _ (HM.out.below b1.out).box).mono ?_
  rintro e w2 ⟨rfl, hb⟩
  have b2 := keep (b1.out.trans (hb.mono b1.out.size))
  clear hb
  rw [HD.out]
  go_wp2
  go_ret
  exact ⟨rfl, b2.out⟩
set_option maxHeartbeats 1000000 in
set_option maxRecDepth 100000 in
theorem rsync_none (F : Nat → Prop) (q : Nat) (r : Disk) (n : List UInt8) (w : World) (h : Ref F w q r) (hn : Dk.named n = true) (hd : r.dark = false) (hx : Dk.look r.files n = none) :
    Calls Try.prog 31 #[.pointer (some ⟨q, 0, none⟩), .string ⟨n.toArray⟩] w fun e w' => e = .returned (.int .i64 3) ∧ Below w.heap.size w w' := by
  obtain ⟨ao, nn, c, es, h⟩ := h
  have HM := keep h
  clear h
  have HD := keep hd
  have HX := keep hx
  clear hd hx
  go_enter Try.func31, Try.ntmps31
  go_wp2_with fail
  refine (rnamed_any n _).mono ?_
  rintro e w1 ⟨rfl, hb⟩
  have b1 := keep hb
  clear hb
  rw [hn]
  go_wp2_with fail
  refine (rright_any true q _ _ _ _ r.dark _ (HM.out.below b1.out).box).mono ?_
  rintro e w2 ⟨rfl, hb⟩
  have b2 := keep (b1.out.trans (hb.mono b1.out.size))
  clear hb
  rw [HD.out]
  go_wp2_with fail
  refine (rat_any _ q ao nn c es r.files n _ (HM.out.below b2.out).box.c1 (HM.out.below b2.out).rows HM.out.few).mono ?_
  rintro e w3 ⟨he, hb⟩
  have b3 := keep (b2.out.trans (hb.mono b2.out.size))
  clear hb
  rw [HX.out] at he
  obtain rfl : e = .returned (.int .i64 (-1)) := by
    rcases he with ⟨_, h1⟩ | ⟨i, f, _, h1, _⟩
    · exact h1
    · cases h1
  clear he
  go_wp2
  go_ret
  exact ⟨rfl, b3.out⟩
set_option maxHeartbeats 1000000 in
set_option maxRecDepth 100000 in
theorem rsync_cut (F : Nat → Prop) (q : Nat) (r : Disk) (n nm : List UInt8) (sf : Nat) (fb : List UInt8) (w : World) (h : Ref F w q r) (hn : Dk.named n = true) (hd : r.dark = false) (hx : Dk.look r.files n = some ⟨nm, sf, fb⟩) (ho0 : r.done ≤ 4611686018427387904) (ht : (Dk.tick r).1 = false) :
    Calls Try.prog 31 #[.pointer (some ⟨q, 0, none⟩), .string ⟨n.toArray⟩] w fun e w' => RefPost F w q (5, (Dk.tick r).2) e w' := by
  obtain ⟨ao, nn, c, es, h⟩ := h
  have HM := keep h
  clear h
  have HD := keep hd
  have HX := keep hx
  clear hd hx
  have HT := keep ht
  clear ht
  go_enter Try.func31, Try.ntmps31
  go_wp2_with fail
  refine (rnamed_any n _).mono ?_
  rintro e w1 ⟨rfl, hb⟩
  have b1 := keep hb
  clear hb
  rw [hn]
  go_wp2_with fail
  refine (rright_any true q _ _ _ _ r.dark _ (HM.out.below b1.out).box).mono ?_
  rintro e w2 ⟨rfl, hb⟩
  have b2 := keep (b1.out.trans (hb.mono b1.out.size))
  clear hb
  rw [HD.out]
  go_wp2_with fail
  refine (rat_any _ q ao nn c es r.files n _ (HM.out.below b2.out).box.c1 (HM.out.below b2.out).rows HM.out.few).mono ?_
  rintro e w3 ⟨he, hb⟩
  have b3 := keep (b2.out.trans (hb.mono b2.out.size))
  clear hb
  rw [HX.out] at he
  obtain ⟨i, hi, rfl⟩ : ∃ i : Nat, r.files[i]? = some ⟨nm, sf, fb⟩ ∧ e = .returned (.int .i64 (i : Int)) := by
    rcases he with ⟨h1, _⟩ | ⟨i, f, h1, h2, h3⟩
    · cases h1
    · cases h2
      exact ⟨i, h1, h3⟩
  have HI := keep hi
  have i0 : (0 : Int) ≤ (i : Int) := by omega
  have i1 : i < nn := by
    have h1 := (List.getElem?_eq_some_iff.1 hi).1
    have h2 := HM.out.rows.len
    omega
  have i2 : (i : Int) < (nn : Int) := by omega
  clear he hi
  go_wp2_with fail
  refine (rstep_ref F q ao nn c es r _ (HM.out.below b3.out) HD.out ho0).mono ?_
  rintro e w5 ⟨rfl, hr5, hk5⟩
  rw [HT.out]
  have R5 := keep hr5
  have K5 := keep ((Kept.of_below (U := At q) b3.out).trans hk5)
  clear hr5 hk5
  go_wp2
  go_ret
  exact ⟨rfl, ⟨_, _, _, _, R5.out⟩, K5.out⟩
set_option maxHeartbeats 1000000 in
set_option maxRecDepth 100000 in
theorem rsync_go (F : Nat → Prop) (q : Nat) (r : Disk) (n nm : List UInt8) (sf : Nat) (fb : List UInt8) (w : World) (h : Ref F w q r) (hn : Dk.named n = true) (hd : r.dark = false) (hx : Dk.look r.files n = some ⟨nm, sf, fb⟩) (ho0 : r.done ≤ 4611686018427387904) (ht : (Dk.tick r).1 = true) :
    Calls Try.prog 31 #[.pointer (some ⟨q, 0, none⟩), .string ⟨n.toArray⟩] w fun e w' => RefPost F w q (0, { (Dk.tick r).2 with files := Dk.put r.files ⟨nm, fb.length, fb⟩ }) e w' := by
  obtain ⟨ao, nn, c, es, h⟩ := h
  have HM := keep h
  clear h
  have HD := keep hd
  have HX := keep hx
  clear hd hx
  have HT := keep ht
  clear ht
  go_enter Try.func31, Try.ntmps31
  go_wp2_with fail
  refine (rnamed_any n _).mono ?_
  rintro e w1 ⟨rfl, hb⟩
  have b1 := keep hb
  clear hb
  rw [hn]
  go_wp2_with fail
  refine (rright_any true q _ _ _ _ r.dark _ (HM.out.below b1.out).box).mono ?_
  rintro e w2 ⟨rfl, hb⟩
  have b2 := keep (b1.out.trans (hb.mono b1.out.size))
  clear hb
  rw [HD.out]
  go_wp2_with fail
  refine (rat_any _ q ao nn c es r.files n _ (HM.out.below b2.out).box.c1 (HM.out.below b2.out).rows HM.out.few).mono ?_
  rintro e w3 ⟨he, hb⟩
  have b3 := keep (b2.out.trans (hb.mono b2.out.size))
  clear hb
  rw [HX.out] at he
  obtain ⟨i, hi, rfl⟩ : ∃ i : Nat, r.files[i]? = some ⟨nm, sf, fb⟩ ∧ e = .returned (.int .i64 (i : Int)) := by
    rcases he with ⟨h1, _⟩ | ⟨i, f, h1, h2, h3⟩
    · cases h1
    · cases h2
      exact ⟨i, h1, h3⟩
  have HI := keep hi
  have i0 : (0 : Int) ≤ (i : Int) := by omega
  have i1 : i < nn := by
    have h1 := (List.getElem?_eq_some_iff.1 hi).1
    have h2 := HM.out.rows.len
    omega
  have i2 : (i : Int) < (nn : Int) := by omega
  clear he hi
  go_wp2_with fail
  refine (rstep_ref F q ao nn c es r _ (HM.out.below b3.out) HD.out ho0).mono ?_
  rintro e w5 ⟨rfl, hr5, hk5⟩
  rw [HT.out]
  have R5 := keep hr5
  have K5 := keep ((Kept.of_below (U := At q) b3.out).trans hk5)
  clear hr5 hk5
  obtain ⟨bb, off, rfl, hbl, hat⟩ := R5.out.rows.at_ (by omega)
  obtain ⟨p, k, hek, hc0, hc1, hc2⟩ := hat i ⟨nm, sf, fb⟩ (by rw [(Dk.tick_files r).1]; exact HI.out)
  have hhe := keep (R5.out.rows.held (List.mem_of_getElem? hek))
  have cq := R5.out.box.c1
  clear hat hek
  have B5 := keep ((Below.refl w5.heap.size w5).alloc (Nat.le_refl _) (.cells #[.string ⟨nm.toArray⟩, .int .i64 (fb.length : Int), .slice p fb.length k] 71))
  have R6 := keep (R5.out.below B5.out)
  have hst := keep (hhe.out.below B5.out)
  go_wp2_with fail
  refine (rput_any (beside F q) q _ _ _ c es _ _ _ _ nm (fb.length) p k fb _ R6.out.box R6.out.rows R6.out.few (.inr rfl) R6.out.inside R6.out.good.rising hst.out).mono ?_
  rintro e w6 ⟨rfl, ⟨ao', c', es', hb6, hr6⟩, hk6⟩
  have hgood : Dk.Good { (Dk.tick r).2 with files := Dk.put r.files ⟨nm, fb.length, fb⟩ } := by
    have h1 := Dk.raw_good 1 n [] [] HM.out.good
    rw [Dk.raw_do (l := Dk.put r.files ⟨nm, fb.length, fb⟩) (by exact hn) HD.out (by simp only [Dk.planOf, Dk.planSync, HX.out]), Dk.write_go HT.out] at h1
    exact h1
  rw [(Dk.tick_files r).1] at hb6 hr6
  have FIN := keep (R6.out.files hk6 hb6 hr6 hgood)
  have K6 := keep ((K5.out.trans (Kept.of_below B5.out)).trans hk6)
  clear hb6 hr6 hk6 hgood
  go_wp2
  go_ret
  exact ⟨rfl, ⟨_, _, _, _, FIN.out⟩, K6.out⟩
theorem rsync_raw (F : Nat → Prop) (q : Nat) (r : Disk) (n : List UInt8) (w : World) (h : Ref F w q r) (ho : r.done ≤ 4611686018427387904) (x y : List UInt8) :
    Calls Try.prog 31 #[.pointer (some ⟨q, 0, none⟩), .string ⟨n.toArray⟩] w fun e w' => RefPost F w q (Dk.raw r 1 n x y) e w' := by
  have stay : ∀ w', Below w.heap.size w w' → Ref F w' q r ∧ Kept (At q) w w' := fun w' hb => by
    obtain ⟨_, _, _, _, h⟩ := h
    exact h.stay hb
  cases hna : Dk.named n with
  | false =>
    rw [Dk.raw_arg (by exact hna)]
    refine (rsync_arg F q r n w h hna).mono ?_
    rintro e w' ⟨rfl, hb⟩
    exact ⟨rfl, stay w' hb⟩
  | true =>
    cases hd : r.dark with
    | true =>
      rw [Dk.raw_dark (by exact hna) hd]
      refine (rsync_dark F q r n w h hna hd).mono ?_
      rintro e w' ⟨rfl, hb⟩
      exact ⟨rfl, stay w' hb⟩
    | false =>
      cases hx : Dk.look r.files n with
      | none =>
        rw [Dk.raw_own (e := 3) (by exact hna) hd (by simp only [Dk.planOf, Dk.planSync, hx])]
        refine (rsync_none F q r n w h hna hd hx).mono ?_
        rintro e w' ⟨rfl, hb⟩
        exact ⟨rfl, stay w' hb⟩
      | some f =>
        obtain ⟨nm, sf, fb⟩ := f
        rw [Dk.raw_do (l := Dk.put r.files ⟨nm, fb.length, fb⟩) (by exact hna) hd (by simp only [Dk.planOf, Dk.planSync, hx])]
        cases ht : (Dk.tick r).1 with
        | false => rw [Dk.write_cut ht]; exact rsync_cut F q r n nm sf fb w h hna hd hx ho ht
        | true => rw [Dk.write_go ht]; exact rsync_go F q r n nm sf fb w h hna hd hx ho ht
end Go.Proofs.Ytfjhfecjbheipaa
namespace Go.Proofs.Ytfjhfecjbheipaa
open Go.RowKit
open Dk (File Disk)

set_option maxHeartbeats 1000000 in
set_option maxRecDepth 100000 in
theorem rappend_there_full (F : Nat → Prop) (q : Nat) (r : Disk) (n nm t : List UInt8) (sf : Nat) (fb : List UInt8) (ao2 : Option Addr) (c2 : Nat) (w : World) (h : Ref F w q r) (hn : Dk.named n = true) (htl : (t.length : Int) ≤ 4096) (hd : r.dark = false) (hx : Dk.look r.files n = some ⟨nm, sf, fb⟩) (hc : ((r.cap : Int) - (Dk.used r.files : Int)) < (t.length : Int)) :
    Calls Try.prog 30 #[.pointer (some ⟨q, 0, none⟩), .string ⟨n.toArray⟩, .slice ao2 t.length c2] w fun e w' => e = .returned (.int .i64 4) ∧ Below w.heap.size w w' := by
  obtain ⟨ao, nn, c, es, h⟩ := h
  have HM := keep h
  clear h
  have HD := keep hd
  have HX := keep hx
  clear hd hx
  have hnl : n.length ≤ 100 := (named_true hn).2.1
  obtain ⟨FR, hF, F0, F1⟩ : ∃ FR : Int, (r.cap : Int) - (Dk.used r.files : Int) = FR ∧ 0 ≤ FR ∧ FR ≤ 1099511627776 := ⟨_, rfl, by have := HM.out.good.room; omega, by have := HM.out.capb; omega⟩
  rw [hF] at hc
  have HF := keep hF
  have HC := keep hc
  clear hF hc
  go_enter Try.func30, Try.ntmps30
  go_wp2_with fail
  refine (rnamed_any n _).mono ?_
  rintro e w1 ⟨rfl, hb⟩
  have b1 := keep hb
  clear hb
  rw [hn]
  go_wp2_with fail
  refine (rright_any true q _ _ _ _ r.dark _ (HM.out.below b1.out).box).mono ?_
  rintro e w2 ⟨rfl, hb⟩
  have b2 := keep (b1.out.trans (hb.mono b1.out.size))
  clear hb
  rw [HD.out]
  have bA := keep (b2.out.alloc b2.out.size (.cells #[.string ⟨n.toArray⟩, .int .i64 0, .slice none 0 0] 71))
  have gA := keep (heap_alloc_new w2 (.cells #[.string ⟨n.toArray⟩, .int .i64 0, .slice none 0 0] 71))
  go_wp2_with fail
  refine (rat_any _ q ao nn c es r.files n _ (HM.out.below bA.out).box.c1 (HM.out.below bA.out).rows HM.out.few).mono ?_
  rintro e w3 ⟨he, hb⟩
  have b3 := keep (bA.out.trans (hb.mono bA.out.size))
  have g3 := keep ((hb.block w2.heap.size (by simp)).trans gA.out)
  have hLq : w.heap.size ≤ w2.heap.size := b2.out.size
  have hqw : q < w.heap.size := HM.out.box.lt
  clear hb
  rw [HX.out] at he
  obtain ⟨i, hi, rfl⟩ : ∃ i : Nat, r.files[i]? = some ⟨nm, sf, fb⟩ ∧ e = .returned (.int .i64 (i : Int)) := by
    rcases he with ⟨h1, _⟩ | ⟨i, f, h1, h2, h3⟩
    · cases h1
    · cases h2
      exact ⟨i, h1, h3⟩
  have HI := keep hi
  have i0 : (0 : Int) ≤ (i : Int) := by omega
  have i1 : i < nn := by
    have h1 := (List.getElem?_eq_some_iff.1 hi).1
    have h2 := HM.out.rows.len
    omega
  have i2 : (i : Int) < (nn : Int) := by omega
  clear he hi
  obtain ⟨bb, off, rfl, hbl, hat⟩ := (HM.out.below b3.out).rows.at_ (by omega)
  obtain ⟨p, k, hek, hc0, hc1, hc2⟩ := hat i ⟨nm, sf, fb⟩ HI.out
  have hhe := keep (HM.out.rows.held (List.mem_of_getElem? hek))
  have hbw : bb < w.heap.size := by
    obtain ⟨bb', off', e, h1, _⟩ := HM.out.rows.at_ (by omega)
    cases e
    exact h1
  have cq := (HM.out.below b3.out).box.c1
  have k0 := (cell_of_row _ _ _ _ _ _ g3.out : w3.cell? ⟨w2.heap.size, 0, none⟩ = some (.string ⟨n.toArray⟩))
  have k1 := (cell_of_row _ _ _ _ _ _ g3.out : w3.cell? ⟨w2.heap.size, 1, none⟩ = some (.int .i64 0))
  have k2 := (cell_of_row _ _ _ _ _ _ g3.out : w3.cell? ⟨w2.heap.size, 2, none⟩ = some (.slice none 0 0))
  have fz : ∀ j, w3.frozen? ⟨w2.heap.size, j, none⟩ = false := fun j => by have := g3.out; simp [World.frozen?, this]
  obtain ⟨W3, hW3⟩ : ∃ W3, ((w3.setCell ⟨w2.heap.size, 0, none⟩ (.string ⟨nm.toArray⟩)).setCell ⟨w2.heap.size, 1, none⟩ (.int .i64 (sf : Int))).setCell ⟨w2.heap.size, 2, none⟩ (.slice p fb.length k) = W3 := ⟨_, rfl⟩
  have b4 := keep (show Below w.heap.size w W3 by rw [← hW3]; exact ((b3.out.setCell (p := ⟨w2.heap.size, 0, none⟩) hLq _).setCell (p := ⟨w2.heap.size, 1, none⟩) hLq _).setCell (p := ⟨w2.heap.size, 2, none⟩) hLq _)
  have g4 := keep (show W3.heap[w2.heap.size]? = some (.cells #[.string ⟨nm.toArray⟩, .int .i64 (sf : Int), .slice p fb.length k] 71 (0, 0)) by rw [← hW3]; exact set_row (set_row (set_row g3.out 0 _) 1 _) 2 _)
  clear hat hek
  go_wp2_with fail
  clear hW3 k0 k1 k2 fz cq hc0 hc1 hc2
  have hfr := rfree_any _ q r.cap (some ⟨bb, off, none⟩) nn c es r.files W3 (HM.out.below b4.out).box.c0 (HM.out.below b4.out).box.c1 (HM.out.below b4.out).rows HM.out.few HM.out.capb (by have h1 := HM.out.good.room; have h2 := HM.out.capb; omega)
  rw [HF.out] at hfr
  refine hfr.mono ?_
  rintro e w4 ⟨rfl, hb⟩
  have b5 := keep (b4.out.trans (hb.mono b4.out.size))
  have g5 := keep ((hb.block w2.heap.size (Array.getElem?_eq_some_iff.1 g4.out).1).trans g4.out)
  have hcmp := HC.out
  clear hb hfr
  go_wp2
  go_ret
  exact ⟨rfl, b5.out⟩
set_option maxHeartbeats 1000000 in
set_option maxRecDepth 100000 in
theorem rappend_new_full (F : Nat → Prop) (q : Nat) (r : Disk) (n t : List UInt8) (ao2 : Option Addr) (c2 : Nat) (w : World) (h : Ref F w q r) (hn : Dk.named n = true) (htl : (t.length : Int) ≤ 4096) (hd : r.dark = false) (hx : Dk.look r.files n = none) (hc : ((r.cap : Int) - (Dk.used r.files : Int)) < ((t.length : Int) + 16 + (n.length : Int))) :
    Calls Try.prog 30 #[.pointer (some ⟨q, 0, none⟩), .string ⟨n.toArray⟩, .slice ao2 t.length c2] w fun e w' => e = .returned (.int .i64 4) ∧ Below w.heap.size w w' := by
  obtain ⟨ao, nn, c, es, h⟩ := h
  have HM := keep h
  clear h
  have HD := keep hd
  have HX := keep hx
  clear hd hx
  have hnl : n.length ≤ 100 := (named_true hn).2.1
  obtain ⟨FR, hF, F0, F1⟩ : ∃ FR : Int, (r.cap : Int) - (Dk.used r.files : Int) = FR ∧ 0 ≤ FR ∧ FR ≤ 1099511627776 := ⟨_, rfl, by have := HM.out.good.room; omega, by have := HM.out.capb; omega⟩
  rw [hF] at hc
  have HF := keep hF
  have HC := keep hc
  clear hF hc
  go_enter Try.func30, Try.ntmps30
  go_wp2_with fail
  refine (rnamed_any n _).mono ?_
  rintro e w1 ⟨rfl, hb⟩
  have b1 := keep hb
  clear hb
  rw [hn]
  go_wp2_with fail
  refine (rright_any true q _ _ _ _ r.dark _ (HM.out.below b1.out).box).mono ?_
  rintro e w2 ⟨rfl, hb⟩
  have b2 := keep (b1.out.trans (hb.mono b1.out.size))
  clear hb
  rw [HD.out]
  have bA := keep (b2.out.alloc b2.out.size (.cells #[.string ⟨n.toArray⟩, .int .i64 0, .slice none 0 0] 71))
  have gA := keep (heap_alloc_new w2 (.cells #[.string ⟨n.toArray⟩, .int .i64 0, .slice none 0 0] 71))
  go_wp2_with fail
  refine (rat_any _ q ao nn c es r.files n _ (HM.out.below bA.out).box.c1 (HM.out.below bA.out).rows HM.out.few).mono ?_
  rintro e w3 ⟨he, hb⟩
  have b3 := keep (bA.out.trans (hb.mono bA.out.size))
  have g3 := keep ((hb.block w2.heap.size (by simp)).trans gA.out)
  have hLq : w.heap.size ≤ w2.heap.size := b2.out.size
  have hqw : q < w.heap.size := HM.out.box.lt
  clear hb
  rw [HX.out] at he
  obtain rfl : e = .returned (.int .i64 (-1)) := by
    rcases he with ⟨_, h1⟩ | ⟨i, f, _, h1, _⟩
    · exact h1
    · cases h1
  clear he
  have b4 := b3
  have g4 := g3
  go_wp2_with fail
  have hfr := rfree_any _ q r.cap ao nn c es r.files w3 (HM.out.below b4.out).box.c0 (HM.out.below b4.out).box.c1 (HM.out.below b4.out).rows HM.out.few HM.out.capb (by have h1 := HM.out.good.room; have h2 := HM.out.capb; omega)
  rw [HF.out] at hfr
  refine hfr.mono ?_
  rintro e w4 ⟨rfl, hb⟩
  have b5 := keep (b4.out.trans (hb.mono b4.out.size))
  have g5 := keep ((hb.block w2.heap.size (Array.getElem?_eq_some_iff.1 g4.out).1).trans g4.out)
  have hcmp := HC.out
  clear hb hfr
  go_wp2
  go_ret
  exact ⟨rfl, b5.out⟩
set_option maxHeartbeats 1000000 in
set_option maxRecDepth 100000 in
theorem rappend_there_cut (F : Nat → Prop) (q : Nat) (r : Disk) (n nm t : List UInt8) (sf : Nat) (fb : List UInt8) (ao2 : Option Addr) (c2 : Nat) (w : World) (h : Ref F w q r) (hn : Dk.named n = true) (htl : (t.length : Int) ≤ 4096) (hd : r.dark = false) (hx : Dk.look r.files n = some ⟨nm, sf, fb⟩) (hc : ¬ ((r.cap : Int) - (Dk.used r.files : Int)) < (t.length : Int)) (ho0 : r.done ≤ 4611686018427387904) (ht : (Dk.tick r).1 = false) :
    Calls Try.prog 30 #[.pointer (some ⟨q, 0, none⟩), .string ⟨n.toArray⟩, .slice ao2 t.length c2] w fun e w' => RefPost F w q (5, (Dk.tick r).2) e w' := by
  obtain ⟨ao, nn, c, es, h⟩ := h
  have HM := keep h
  clear h
  have HD := keep hd
  have HX := keep hx
  clear hd hx
  have hnl : n.length ≤ 100 := (named_true hn).2.1
  obtain ⟨FR, hF, F0, F1⟩ : ∃ FR : Int, (r.cap : Int) - (Dk.used r.files : Int) = FR ∧ 0 ≤ FR ∧ FR ≤ 1099511627776 := ⟨_, rfl, by have := HM.out.good.room; omega, by have := HM.out.capb; omega⟩
  rw [hF] at hc
  have HF := keep hF
  have HC := keep hc
  clear hF hc
  have HT := keep ht
  clear ht
  go_enter Try.func30, Try.ntmps30
  go_wp2_with fail
  refine (rnamed_any n _).mono ?_
  rintro e w1 ⟨rfl, hb⟩
  have b1 := keep hb
  clear hb
  rw [hn]
  go_wp2_with fail
  refine (rright_any true q _ _ _ _ r.dark _ (HM.out.below b1.out).box).mono ?_
  rintro e w2 ⟨rfl, hb⟩
  have b2 := keep (b1.out.trans (hb.mono b1.out.size))
  clear hb
  rw [HD.out]
  have bA := keep (b2.out.alloc b2.out.size (.cells #[.string ⟨n.toArray⟩, .int .i64 0, .slice none 0 0] 71))
  have gA := keep (heap_alloc_new w2 (.cells #[.string ⟨n.toArray⟩, .int .i64 0, .slice none 0 0] 71))
  go_wp2_with fail
  refine (rat_any _ q ao nn c es r.files n _ (HM.out.below bA.out).box.c1 (HM.out.below bA.out).rows HM.out.few).mono ?_
  rintro e w3 ⟨he, hb⟩
  have b3 := keep (bA.out.trans (hb.mono bA.out.size))
  have g3 := keep ((hb.block w2.heap.size (by simp)).trans gA.out)
  have hLq : w.heap.size ≤ w2.heap.size := b2.out.size
  have hqw : q < w.heap.size := HM.out.box.lt
  clear hb
  rw [HX.out] at he
  obtain ⟨i, hi, rfl⟩ : ∃ i : Nat, r.files[i]? = some ⟨nm, sf, fb⟩ ∧ e = .returned (.int .i64 (i : Int)) := by
    rcases he with ⟨h1, _⟩ | ⟨i, f, h1, h2, h3⟩
    · cases h1
    · cases h2
      exact ⟨i, h1, h3⟩
  have HI := keep hi
  have i0 : (0 : Int) ≤ (i : Int) := by omega
  have i1 : i < nn := by
    have h1 := (List.getElem?_eq_some_iff.1 hi).1
    have h2 := HM.out.rows.len
    omega
  have i2 : (i : Int) < (nn : Int) := by omega
  clear he hi
  obtain ⟨bb, off, rfl, hbl, hat⟩ := (HM.out.below b3.out).rows.at_ (by omega)
  obtain ⟨p, k, hek, hc0, hc1, hc2⟩ := hat i ⟨nm, sf, fb⟩ HI.out
  have hhe := keep (HM.out.rows.held (List.mem_of_getElem? hek))
  have hbw : bb < w.heap.size := by
    obtain ⟨bb', off', e, h1, _⟩ := HM.out.rows.at_ (by omega)
    cases e
    exact h1
  have cq := (HM.out.below b3.out).box.c1
  have k0 := (cell_of_row _ _ _ _ _ _ g3.out : w3.cell? ⟨w2.heap.size, 0, none⟩ = some (.string ⟨n.toArray⟩))
  have k1 := (cell_of_row _ _ _ _ _ _ g3.out : w3.cell? ⟨w2.heap.size, 1, none⟩ = some (.int .i64 0))
  have k2 := (cell_of_row _ _ _ _ _ _ g3.out : w3.cell? ⟨w2.heap.size, 2, none⟩ = some (.slice none 0 0))
  have fz : ∀ j, w3.frozen? ⟨w2.heap.size, j, none⟩ = false := fun j => by have := g3.out; simp [World.frozen?, this]
  obtain ⟨W3, hW3⟩ : ∃ W3, ((w3.setCell ⟨w2.heap.size, 0, none⟩ (.string ⟨nm.toArray⟩)).setCell ⟨w2.heap.size, 1, none⟩ (.int .i64 (sf : Int))).setCell ⟨w2.heap.size, 2, none⟩ (.slice p fb.length k) = W3 := ⟨_, rfl⟩
  have b4 := keep (show Below w.heap.size w W3 by rw [← hW3]; exact ((b3.out.setCell (p := ⟨w2.heap.size, 0, none⟩) hLq _).setCell (p := ⟨w2.heap.size, 1, none⟩) hLq _).setCell (p := ⟨w2.heap.size, 2, none⟩) hLq _)
  have g4 := keep (show W3.heap[w2.heap.size]? = some (.cells #[.string ⟨nm.toArray⟩, .int .i64 (sf : Int), .slice p fb.length k] 71 (0, 0)) by rw [← hW3]; exact set_row (set_row (set_row g3.out 0 _) 1 _) 2 _)
  clear hat hek
  go_wp2_with fail
  clear hW3 k0 k1 k2 fz cq hc0 hc1 hc2
  have hfr := rfree_any _ q r.cap (some ⟨bb, off, none⟩) nn c es r.files W3 (HM.out.below b4.out).box.c0 (HM.out.below b4.out).box.c1 (HM.out.below b4.out).rows HM.out.few HM.out.capb (by have h1 := HM.out.good.room; have h2 := HM.out.capb; omega)
  rw [HF.out] at hfr
  refine hfr.mono ?_
  rintro e w4 ⟨rfl, hb⟩
  have b5 := keep (b4.out.trans (hb.mono b4.out.size))
  have g5 := keep ((hb.block w2.heap.size (Array.getElem?_eq_some_iff.1 g4.out).1).trans g4.out)
  have hcmp := HC.out
  clear hb hfr
  go_wp2_with fail
  clear hcmp
  refine (rstep_ref F q _ nn c es r _ (HM.out.below b5.out) HD.out ho0).mono ?_
  rintro e w5 ⟨rfl, hr5, hk5⟩
  rw [HT.out]
  have R5 := keep hr5
  have K5 := keep ((Kept.of_below (U := At q) b5.out).trans hk5)
  clear hr5 hk5
  go_wp2
  go_ret
  exact ⟨rfl, ⟨_, _, _, _, R5.out⟩, K5.out⟩
set_option maxHeartbeats 1000000 in
set_option maxRecDepth 100000 in
theorem rappend_new_cut (F : Nat → Prop) (q : Nat) (r : Disk) (n t : List UInt8) (ao2 : Option Addr) (c2 : Nat) (w : World) (h : Ref F w q r) (hn : Dk.named n = true) (htl : (t.length : Int) ≤ 4096) (hd : r.dark = false) (hx : Dk.look r.files n = none) (hc : ¬ ((r.cap : Int) - (Dk.used r.files : Int)) < ((t.length : Int) + 16 + (n.length : Int))) (ho0 : r.done ≤ 4611686018427387904) (ht : (Dk.tick r).1 = false) :
    Calls Try.prog 30 #[.pointer (some ⟨q, 0, none⟩), .string ⟨n.toArray⟩, .slice ao2 t.length c2] w fun e w' => RefPost F w q (5, (Dk.tick r).2) e w' := by
  obtain ⟨ao, nn, c, es, h⟩ := h
  have HM := keep h
  clear h
  have HD := keep hd
  have HX := keep hx
  clear hd hx
  have hnl : n.length ≤ 100 := (named_true hn).2.1
  obtain ⟨FR, hF, F0, F1⟩ : ∃ FR : Int, (r.cap : Int) - (Dk.used r.files : Int) = FR ∧ 0 ≤ FR ∧ FR ≤ 1099511627776 := ⟨_, rfl, by have := HM.out.good.room; omega, by have := HM.out.capb; omega⟩
  rw [hF] at hc
  have HF := keep hF
  have HC := keep hc
  clear hF hc
  have HT := keep ht
  clear ht
  go_enter Try.func30, Try.ntmps30
  go_wp2_with fail
  refine (rnamed_any n _).mono ?_
  rintro e w1 ⟨rfl, hb⟩
  have b1 := keep hb
  clear hb
  rw [hn]
  go_wp2_with fail
  refine (rright_any true q _ _ _ _ r.dark _ (HM.out.below b1.out).box).mono ?_
  rintro e w2 ⟨rfl, hb⟩
  have b2 := keep (b1.out.trans (hb.mono b1.out.size))
  clear hb
  rw [HD.out]
  have bA := keep (b2.out.alloc b2.out.size (.cells #[.string ⟨n.toArray⟩, .int .i64 0, .slice none 0 0] 71))
  have gA := keep (heap_alloc_new w2 (.cells #[.string ⟨n.toArray⟩, .int .i64 0, .slice none 0 0] 71))
  go_wp2_with fail
  refine (rat_any _ q ao nn c es r.files n _ (HM.out.below bA.out).box.c1 (HM.out.below bA.out).rows HM.out.few).mono ?_
  rintro e w3 ⟨he, hb⟩
  have b3 := keep (bA.out.trans (hb.mono bA.out.size))
  have g3 := keep ((hb.block w2.heap.size (by simp)).trans gA.out)
  have hLq : w.heap.size ≤ w2.heap.size := b2.out.size
  have hqw : q < w.heap.size := HM.out.box.lt
  clear hb
  rw [HX.out] at he
  obtain rfl : e = .returned (.int .i64 (-1)) := by
    rcases he with ⟨_, h1⟩ | ⟨i, f, _, h1, _⟩
    · exact h1
    · cases h1
  clear he
  have b4 := b3
  have g4 := g3
  go_wp2_with fail
  have hfr := rfree_any _ q r.cap ao nn c es r.files w3 (HM.out.below b4.out).box.c0 (HM.out.below b4.out).box.c1 (HM.out.below b4.out).rows HM.out.few HM.out.capb (by have h1 := HM.out.good.room; have h2 := HM.out.capb; omega)
  rw [HF.out] at hfr
  refine hfr.mono ?_
  rintro e w4 ⟨rfl, hb⟩
  have b5 := keep (b4.out.trans (hb.mono b4.out.size))
  have g5 := keep ((hb.block w2.heap.size (Array.getElem?_eq_some_iff.1 g4.out).1).trans g4.out)
  have hcmp := HC.out
  clear hb hfr
  go_wp2_with fail
  clear hcmp
  refine (rstep_ref F q _ nn c es r _ (HM.out.below b5.out) HD.out ho0).mono ?_
  rintro e w5 ⟨rfl, hr5, hk5⟩
  rw [HT.out]
  have R5 := keep hr5
  have K5 := keep ((Kept.of_below (U := At q) b5.out).trans hk5)
  clear hr5 hk5
  go_wp2
  go_ret
  exact ⟨rfl, ⟨_, _, _, _, R5.out⟩, K5.out⟩
end Go.Proofs.Ytfjhfecjbheipaa
namespace Go.Proofs.Ytfjhfecjbheipaa
open Go.RowKit
open Dk (File Disk)

set_option maxHeartbeats 1000000 in
set_option maxRecDepth 100000 in
theorem rappend_there_go (F : Nat → Prop) (q : Nat) (r : Disk) (n nm t : List UInt8) (sf : Nat) (fb : List UInt8) (ao2 : Option Addr) (c2 : Nat) (w : World) (h : Ref F w q r) (hn : Dk.named n = true) (htl : (t.length : Int) ≤ 4096) (hd : r.dark = false) (hsrc : Steady (beside F q) w fun w => Src w ao2 t.length c2 t) (hx : Dk.look r.files n = some ⟨nm, sf, fb⟩) (hc : ¬ ((r.cap : Int) - (Dk.used r.files : Int)) < (t.length : Int)) (ho0 : r.done ≤ 4611686018427387904) (ht : (Dk.tick r).1 = true) :
    Calls Try.prog 30 #[.pointer (some ⟨q, 0, none⟩), .string ⟨n.toArray⟩, .slice ao2 t.length c2] w fun e w' => RefPost F w q (0, { (Dk.tick r).2 with files := Dk.put r.files ⟨nm, sf, fb ++ t⟩ }) e w' := by
  obtain ⟨ao, nn, c, es, h⟩ := h
  have HM := keep h
  clear h
  have HD := keep hd
  have HX := keep hx
  clear hd hx
  have hnl : n.length ≤ 100 := (named_true hn).2.1
  obtain ⟨FR, hF, F0, F1⟩ : ∃ FR : Int, (r.cap : Int) - (Dk.used r.files : Int) = FR ∧ 0 ≤ FR ∧ FR ≤ 1099511627776 := ⟨_, rfl, by have := HM.out.good.room; omega, by have := HM.out.capb; omega⟩
  rw [hF] at hc
  have HF := keep hF
  have HC := keep hc
  clear hF hc
  have HT := keep ht
  clear ht
  have HSRC := keep hsrc
  clear hsrc
  go_enter Try.func30, Try.ntmps30
  go_wp2_with fail
  refine (rnamed_any n _).mono ?_
  rintro e w1 ⟨rfl, hb⟩
  have b1 := keep hb
  clear hb
  rw [hn]
  go_wp2_with fail
  refine (rright_any true q _ _ _ _ r.dark _ (HM.out.below b1.out).box).mono ?_
  rintro e w2 ⟨rfl, hb⟩
  have b2 := keep (b1.out.trans (hb.mono b1.out.size))
  clear hb
  rw [HD.out]
  have bA := keep (b2.out.alloc b2.out.size (.cells #[.string ⟨n.toArray⟩, .int .i64 0, .slice none 0 0] 71))
  have gA := keep (heap_alloc_new w2 (.cells #[.string ⟨n.toArray⟩, .int .i64 0, .slice none 0 0] 71))
  go_wp2_with fail
  refine (rat_any _ q ao nn c es r.files n _ (HM.out.below bA.out).box.c1 (HM.out.below bA.out).rows HM.out.few).mono ?_
  rintro e w3 ⟨he, hb⟩
  have b3 := keep (bA.out.trans (hb.mono bA.out.size))
  have g3 := keep ((hb.block w2.heap.size (by simp)).trans gA.out)
  have hLq : w.heap.size ≤ w2.heap.size := b2.out.size
  have hqw : q < w.heap.size := HM.out.box.lt
  clear hb
  rw [HX.out] at he
  obtain ⟨i, hi, rfl⟩ : ∃ i : Nat, r.files[i]? = some ⟨nm, sf, fb⟩ ∧ e = .returned (.int .i64 (i : Int)) := by
    rcases he with ⟨h1, _⟩ | ⟨i, f, h1, h2, h3⟩
    · cases h1
    · cases h2
      exact ⟨i, h1, h3⟩
  have HI := keep hi
  have i0 : (0 : Int) ≤ (i : Int) := by omega
  have i1 : i < nn := by
    have h1 := (List.getElem?_eq_some_iff.1 hi).1
    have h2 := HM.out.rows.len
    omega
  have i2 : (i : Int) < (nn : Int) := by omega
  clear he hi
  obtain ⟨bb, off, rfl, hbl, hat⟩ := (HM.out.below b3.out).rows.at_ (by omega)
  obtain ⟨p, k, hek, hc0, hc1, hc2⟩ := hat i ⟨nm, sf, fb⟩ HI.out
  have hhe := keep (HM.out.rows.held (List.mem_of_getElem? hek))
  have hbw : bb < w.heap.size := by
    obtain ⟨bb', off', e, h1, _⟩ := HM.out.rows.at_ (by omega)
    cases e
    exact h1
  have cq := (HM.out.below b3.out).box.c1
  have k0 := (cell_of_row _ _ _ _ _ _ g3.out : w3.cell? ⟨w2.heap.size, 0, none⟩ = some (.string ⟨n.toArray⟩))
  have k1 := (cell_of_row _ _ _ _ _ _ g3.out : w3.cell? ⟨w2.heap.size, 1, none⟩ = some (.int .i64 0))
  have k2 := (cell_of_row _ _ _ _ _ _ g3.out : w3.cell? ⟨w2.heap.size, 2, none⟩ = some (.slice none 0 0))
  have fz : ∀ j, w3.frozen? ⟨w2.heap.size, j, none⟩ = false := fun j => by have := g3.out; simp [World.frozen?, this]
  obtain ⟨W3, hW3⟩ : ∃ W3, ((w3.setCell ⟨w2.heap.size, 0, none⟩ (.string ⟨nm.toArray⟩)).setCell ⟨w2.heap.size, 1, none⟩ (.int .i64 (sf : Int))).setCell ⟨w2.heap.size, 2, none⟩ (.slice p fb.length k) = W3 := ⟨_, rfl⟩
  have b4 := keep (show Below w.heap.size w W3 by rw [← hW3]; exact ((b3.out.setCell (p := ⟨w2.heap.size, 0, none⟩) hLq _).setCell (p := ⟨w2.heap.size, 1, none⟩) hLq _).setCell (p := ⟨w2.heap.size, 2, none⟩) hLq _)
  have g4 := keep (show W3.heap[w2.heap.size]? = some (.cells #[.string ⟨nm.toArray⟩, .int .i64 (sf : Int), .slice p fb.length k] 71 (0, 0)) by rw [← hW3]; exact set_row (set_row (set_row g3.out 0 _) 1 _) 2 _)
  clear hat hek
  go_wp2_with fail
  clear hW3 k0 k1 k2 fz cq hc0 hc1 hc2
  have hfr := rfree_any _ q r.cap (some ⟨bb, off, none⟩) nn c es r.files W3 (HM.out.below b4.out).box.c0 (HM.out.below b4.out).box.c1 (HM.out.below b4.out).rows HM.out.few HM.out.capb (by have h1 := HM.out.good.room; have h2 := HM.out.capb; omega)
  rw [HF.out] at hfr
  refine hfr.mono ?_
  rintro e w4 ⟨rfl, hb⟩
  have b5 := keep (b4.out.trans (hb.mono b4.out.size))
  have g5 := keep ((hb.block w2.heap.size (Array.getElem?_eq_some_iff.1 g4.out).1).trans g4.out)
  have hcmp := HC.out
  clear hb hfr
  go_wp2_with fail
  clear hcmp
  refine (rstep_ref F q _ nn c es r _ (HM.out.below b5.out) HD.out ho0).mono ?_
  rintro e w5 ⟨rfl, hr5, hk5⟩
  rw [HT.out]
  have R5 := keep hr5
  have K5 := keep ((Kept.of_below (U := At q) b5.out).trans hk5)
  have g6 := keep ((hk5.block w2.heap.size (Array.getElem?_eq_some_iff.1 g5.out).1 (fun e => by have : w2.heap.size = q := e; omega)).trans g5.out)
  have hs5 := keep hk5.size
  clear hr5 hk5
  have hL4 : w2.heap.size < w4.heap.size := (Array.getElem?_eq_some_iff.1 g5.out).1
  have q0 : ¬ At q w2.heap.size := fun e => by have : w2.heap.size = q := e; omega
  have k0 := (cell_of_row _ _ _ _ _ _ g6.out : w5.cell? ⟨w2.heap.size, 0, none⟩ = some (.string ⟨nm.toArray⟩))
  have k1 := (cell_of_row _ _ _ _ _ _ g6.out : w5.cell? ⟨w2.heap.size, 1, none⟩ = some (.int .i64 (sf : Int)))
  have k2 := (cell_of_row _ _ _ _ _ _ g6.out : w5.cell? ⟨w2.heap.size, 2, none⟩ = some (.slice p fb.length k))
  have fz : ∀ j, w5.frozen? ⟨w2.heap.size, j, none⟩ = false := fun j => by have := g6.out; simp [World.frozen?, this]
  have k2o : ∀ o : Obj, (w5.alloc o).cell? ⟨w2.heap.size, 2, none⟩ = some (.slice p fb.length k) := fun o => below_cell ((Below.refl _ _).alloc (Nat.le_refl _) o) k2
  have hfb : fb.length ≤ 1099511627776 := by
    have h1 := used_mem (Dk.look_some HX.out).1
    have h2 := HM.out.good.room
    have h3 := HM.out.capb
    simp only [Dk.cost] at h1
    omega
  have HP : Hid (Steady (beside F q) w fun w => Src w p fb.length k fb) := hhe.out
  have hwid : ∀ g, At q g → beside F q g := fun g e => .inr e
  have hL5 : w2.heap.size < w5.heap.size := (Array.getElem?_eq_some_iff.1 g6.out).1
  have hw5 : w.heap.size ≤ w5.heap.size := K5.out.size
  have S5 := keep (HP.out _ ((K5.out.wide (fun g _ e => hwid g e)).alloc (.cells #[] 5)))
  have KEYA : Hid (∀ v6 w6, w6.ownsRow w5.heap.size 5 1 v6 (fb.length) (bv (fb)) → (w5.alloc (.cells #[] 5)).grownBy w6 (some w5.heap.size) → ∃ ao6 c6, v6 = .slice ao6 (fb.length) c6 ∧ Hid (w6.ownsRow w5.heap.size 5 1 (.slice ao6 (fb.length) c6) (fb.length) (bv (fb))) ∧ Hid (Src w6 ao2 t.length c2 t) ∧ Hid (Below w5.heap.size w5 w6) ∧ Hid (w5.heap.size ≤ w6.heap.size)) := by
    intro v6 w6 h1 h2
    obtain ⟨ao6, c6, rfl⟩ := own_slice h1
    have bb6 : Below w5.heap.size w5 w6 := ((Below.refl _ _).alloc (Nat.le_refl _) _).grown h2 (by simp) (fun g e => by cases e; exact Nat.le_refl _)
    exact ⟨ao6, c6, rfl, h1, HSRC.out _ ((K5.out.wide (fun g _ e => hwid g e)).trans (Kept.of_below bb6)), bb6, bb6.size⟩
  have KEYB : Hid (∀ w6 v6 v7 w7, Below w5.heap.size w5 w6 → w6.ownsRow w5.heap.size 5 1 v6 (fb.length) (bv (fb)) → w7.ownsRow w5.heap.size 5 1 v7 (fb.length + t.length) (bv (fb ++ t)) → w6.grownBy w7 v6.ownBlock → ∃ ao7 c7, v7 = .slice ao7 (fb.length + t.length) c7 ∧ w7.cell? ⟨w2.heap.size, 0, none⟩ = some (.string ⟨nm.toArray⟩) ∧ w7.cell? ⟨w2.heap.size, 1, none⟩ = some (.int .i64 (sf : Int)) ∧ w7.cell? ⟨w2.heap.size, 2, none⟩ = some (.slice p fb.length k) ∧ (∀ j, w7.frozen? ⟨w2.heap.size, j, none⟩ = false) ∧
      Hid (RefAt F (w7.setCell ⟨w2.heap.size, 2, none⟩ (.slice ao7 (fb.length + t.length) c7)) q (some ⟨bb, off, none⟩) nn c es (Dk.tick r).2) ∧ Hid (Steady (beside F q) (w7.setCell ⟨w2.heap.size, 2, none⟩ (.slice ao7 (fb.length + t.length) c7)) fun w => Src w ao7 (fb ++ t).length c7 (fb ++ t)) ∧ Hid (Kept (At q) w (w7.setCell ⟨w2.heap.size, 2, none⟩ (.slice ao7 (fb.length + t.length) c7)))) := by
    intro w6 v6 v7 w7 hb6 h0 h1 h2
    obtain ⟨ao7, c7, rfl⟩ := own_slice h1
    have bb7 : Below w5.heap.size w5 w7 := hb6.grown h2 hb6.size (fun g e => (h0.lt g e).1)
    have g7 := (bb7.block w2.heap.size hL5).trans g6.out
    have kk : Kept (At q) w (w7.setCell ⟨w2.heap.size, 2, none⟩ (.slice ao7 (fb.length + t.length) c7)) := (K5.out.trans (Kept.of_below bb7)).setCell (p := ⟨w2.heap.size, 2, none⟩) (.inr hLq) _
    have hqs : (w7.setCell ⟨w2.heap.size, 2, none⟩ (.slice ao7 (fb.length + t.length) c7)).heap[q]? = w5.heap[q]? := (Below.heap_setCell w7 ⟨w2.heap.size, 2, none⟩ _ q (fun e => q0 e.symm)).trans (bb7.block q R5.out.box.lt)
    have hlen : (fb ++ t).length = fb.length + t.length := by simp
    refine ⟨ao7, c7, rfl, cell_of_row _ _ _ _ _ _ g7, cell_of_row _ _ _ _ _ _ g7, cell_of_row _ _ _ _ _ _ g7, (fun j => by simp [World.frozen?, g7]), HM.out.turn kk (R5.out.box.same hqs) (Dk.tick_files r).1 R5.out.good (Dk.tick_files r).2 R5.out.leftb, ?_, kk⟩
    have ho8 : (w7.setCell ⟨w2.heap.size, 2, none⟩ (.slice ao7 (fb.length + t.length) c7)).ownsRow w5.heap.size 5 1 (.slice ao7 (fb.length + t.length) c7) (fb.length + t.length) (bv (fb ++ t)) := own_block h1 (fun g hg => Below.heap_setCell w7 ⟨w2.heap.size, 2, none⟩ _ g (fun e => by have h3 := (h1.lt g hg).1; have : g = w2.heap.size := e; omega))
    rw [hlen]
    intro w8 hk8
    obtain ⟨ao9, c9, e9, hs9, _⟩ := Src.of_own (own_steady ho8 (fun g hg => Nat.lt_of_lt_of_le (HM.out.inside g hg) hw5) w8 hk8)
    cases e9
    exact hs9
  obtain ⟨i00, hi0, hz0, hz1, hz2⟩ := info_parts info5
  clear k2
  go_wp2_with (first
    | (at_builtin; refine wpList_append_src rfl _ _ 35 rfl w5.heap.size i00 _ Try.underlying35 hi0 hz0 hz1 hz2 rfl _ (fb.length) (fb) rfl a1.out _ t.length c2 t rfl a2.out (by omega) a4.out ?_; intro v7 w7 ho7 hg7; obtain ⟨ao7, c7, rfl, n0, n1, n2, nz, m1, m2, m3⟩ := KEYB.out _ _ v7 w7 a3.out a1.out ho7 hg7; clear ho7 hg7)
    | (at_builtin; refine wpList_append_src rfl _ _ 35 rfl w5.heap.size i00 _ Try.underlying35 hi0 hz0 hz1 hz2 rfl _ 0 [] rfl (World.ownsRow_made w5 #[] 0 (Nat.le_refl _) (by unfold maxLen; omega) rfl) _ (fb.length) k (fb) rfl S5.out (by omega) (by simp) ?_; intro v6 w6 ho6 hg6; simp only [Nat.zero_add, List.nil_append] at ho6; obtain ⟨ao6, c6, rfl, a1, a2, a3, a4⟩ := KEYA.out v6 w6 ho6 hg6; clear ho6 hg6))
  have hput := rput_any (beside F q) q _ _ _ c es _ _ _ _ nm sf ao7 c7 (fb ++ t) _ m1.out.box m1.out.rows m1.out.few (.inr rfl) m1.out.inside m1.out.good.rising m2.out
  rw [show (fb ++ t).length = fb.length + t.length from List.length_append] at hput
  refine hput.mono ?_
  rintro e w9 ⟨rfl, ⟨ao', c', es', hb9, hr9⟩, hk9⟩
  have hgood : Dk.Good { (Dk.tick r).2 with files := Dk.put r.files ⟨nm, sf, fb ++ t⟩ } := by
    have h1 := Dk.raw_good 0 n [] t HM.out.good
    have hC := HC.out
    have hF2 := HF.out
    rw [Dk.raw_do (l := Dk.put r.files ⟨nm, sf, fb ++ t⟩) (by show (Dk.named n && decide (t.length ≤ 4096)) = true; rw [hn, decide_eq_true (by omega)]; rfl) HD.out (by
      simp only [Dk.planOf, Dk.planAppend, HX.out]
      rw [if_neg (by omega)]), Dk.write_go HT.out] at h1
    exact h1
  rw [(Dk.tick_files r).1] at hb9 hr9
  have FIN := keep (m1.out.files hk9 hb9 hr9 hgood)
  have K9 := keep (m3.out.trans hk9)
  clear hb9 hr9 hk9 hgood hput
  go_wp2
  go_ret
  exact ⟨rfl, ⟨_, _, _, _, FIN.out⟩, K9.out⟩
set_option maxHeartbeats 1000000 in
set_option maxRecDepth 100000 in
theorem rappend_new_go (F : Nat → Prop) (q : Nat) (r : Disk) (n t : List UInt8) (ao2 : Option Addr) (c2 : Nat) (w : World) (h : Ref F w q r) (hn : Dk.named n = true) (htl : (t.length : Int) ≤ 4096) (hd : r.dark = false) (hsrc : Steady (beside F q) w fun w => Src w ao2 t.length c2 t) (hx : Dk.look r.files n = none) (hc : ¬ ((r.cap : Int) - (Dk.used r.files : Int)) < ((t.length : Int) + 16 + (n.length : Int))) (ho0 : r.done ≤ 4611686018427387904) (ht : (Dk.tick r).1 = true) :
    Calls Try.prog 30 #[.pointer (some ⟨q, 0, none⟩), .string ⟨n.toArray⟩, .slice ao2 t.length c2] w fun e w' => RefPost F w q (0, { (Dk.tick r).2 with files := Dk.put r.files ⟨n, 0, t⟩ }) e w' := by
  obtain ⟨ao, nn, c, es, h⟩ := h
  have HM := keep h
  clear h
  have HD := keep hd
  have HX := keep hx
  clear hd hx
  have hnl : n.length ≤ 100 := (named_true hn).2.1
  obtain ⟨FR, hF, F0, F1⟩ : ∃ FR : Int, (r.cap : Int) - (Dk.used r.files : Int) = FR ∧ 0 ≤ FR ∧ FR ≤ 1099511627776 := ⟨_, rfl, by have := HM.out.good.room; omega, by have := HM.out.capb; omega⟩
  rw [hF] at hc
  have HF := keep hF
  have HC := keep hc
  clear hF hc
  have HT := keep ht
  clear ht
  have HSRC := keep hsrc
  clear hsrc
  go_enter Try.func30, Try.ntmps30
  go_wp2_with fail
  refine (rnamed_any n _).mono ?_
  rintro e w1 ⟨rfl, hb⟩
  have b1 := keep hb
  clear hb
  rw [hn]
  go_wp2_with fail
  refine (rright_any true q _ _ _ _ r.dark _ (HM.out.below b1.out).box).mono ?_
  rintro e w2 ⟨rfl, hb⟩
  have b2 := keep (b1.out.trans (hb.mono b1.out.size))
  clear hb
  rw [HD.out]
  have bA := keep (b2.out.alloc b2.out.size (.cells #[.string ⟨n.toArray⟩, .int .i64 0, .slice none 0 0] 71))
  have gA := keep (heap_alloc_new w2 (.cells #[.string ⟨n.toArray⟩, .int .i64 0, .slice none 0 0] 71))
  go_wp2_with fail
  refine (rat_any _ q ao nn c es r.files n _ (HM.out.below bA.out).box.c1 (HM.out.below bA.out).rows HM.out.few).mono ?_
  rintro e w3 ⟨he, hb⟩
  have b3 := keep (bA.out.trans (hb.mono bA.out.size))
  have g3 := keep ((hb.block w2.heap.size (by simp)).trans gA.out)
  have hLq : w.heap.size ≤ w2.heap.size := b2.out.size
  have hqw : q < w.heap.size := HM.out.box.lt
  clear hb
  rw [HX.out] at he
  obtain rfl : e = .returned (.int .i64 (-1)) := by
    rcases he with ⟨_, h1⟩ | ⟨i, f, _, h1, _⟩
    · exact h1
    · cases h1
  clear he
  have b4 := b3
  have g4 := g3
  go_wp2_with fail
  have hfr := rfree_any _ q r.cap ao nn c es r.files w3 (HM.out.below b4.out).box.c0 (HM.out.below b4.out).box.c1 (HM.out.below b4.out).rows HM.out.few HM.out.capb (by have h1 := HM.out.good.room; have h2 := HM.out.capb; omega)
  rw [HF.out] at hfr
  refine hfr.mono ?_
  rintro e w4 ⟨rfl, hb⟩
  have b5 := keep (b4.out.trans (hb.mono b4.out.size))
  have g5 := keep ((hb.block w2.heap.size (Array.getElem?_eq_some_iff.1 g4.out).1).trans g4.out)
  have hcmp := HC.out
  clear hb hfr
  go_wp2_with fail
  clear hcmp
  refine (rstep_ref F q _ nn c es r _ (HM.out.below b5.out) HD.out ho0).mono ?_
  rintro e w5 ⟨rfl, hr5, hk5⟩
  rw [HT.out]
  have R5 := keep hr5
  have K5 := keep ((Kept.of_below (U := At q) b5.out).trans hk5)
  have g6 := keep ((hk5.block w2.heap.size (Array.getElem?_eq_some_iff.1 g5.out).1 (fun e => by have : w2.heap.size = q := e; omega)).trans g5.out)
  have hs5 := keep hk5.size
  clear hr5 hk5
  have hL4 : w2.heap.size < w4.heap.size := (Array.getElem?_eq_some_iff.1 g5.out).1
  have q0 : ¬ At q w2.heap.size := fun e => by have : w2.heap.size = q := e; omega
  have k0 := (cell_of_row _ _ _ _ _ _ g6.out : w5.cell? ⟨w2.heap.size, 0, none⟩ = some (.string ⟨n.toArray⟩))
  have k1 := (cell_of_row _ _ _ _ _ _ g6.out : w5.cell? ⟨w2.heap.size, 1, none⟩ = some (.int .i64 0))
  have k2 := (cell_of_row _ _ _ _ _ _ g6.out : w5.cell? ⟨w2.heap.size, 2, none⟩ = some (.slice none 0 0))
  have fz : ∀ j, w5.frozen? ⟨w2.heap.size, j, none⟩ = false := fun j => by have := g6.out; simp [World.frozen?, this]
  have k2o : ∀ o : Obj, (w5.alloc o).cell? ⟨w2.heap.size, 2, none⟩ = some (.slice none 0 0) := fun o => below_cell ((Below.refl _ _).alloc (Nat.le_refl _) o) k2
  have hfb : 0 ≤ 1099511627776 := by
    omega
  have HP : Hid (Steady (beside F q) w fun w => Src w none 0 0 []) := (fun _ _ => Src.empty (fun _ => rfl))
  have hwid : ∀ g, At q g → beside F q g := fun g e => .inr e
  have hL5 : w2.heap.size < w5.heap.size := (Array.getElem?_eq_some_iff.1 g6.out).1
  have hw5 : w.heap.size ≤ w5.heap.size := K5.out.size
  have S5 := keep (HP.out _ ((K5.out.wide (fun g _ e => hwid g e)).alloc (.cells #[] 5)))
  have KEYA : Hid (∀ v6 w6, w6.ownsRow w5.heap.size 5 1 v6 (0) (bv ([])) → (w5.alloc (.cells #[] 5)).grownBy w6 (some w5.heap.size) → ∃ ao6 c6, v6 = .slice ao6 (0) c6 ∧ Hid (w6.ownsRow w5.heap.size 5 1 (.slice ao6 (0) c6) (0) (bv ([]))) ∧ Hid (Src w6 ao2 t.length c2 t) ∧ Hid (Below w5.heap.size w5 w6) ∧ Hid (w5.heap.size ≤ w6.heap.size)) := by
    intro v6 w6 h1 h2
    obtain ⟨ao6, c6, rfl⟩ := own_slice h1
    have bb6 : Below w5.heap.size w5 w6 := ((Below.refl _ _).alloc (Nat.le_refl _) _).grown h2 (by simp) (fun g e => by cases e; exact Nat.le_refl _)
    exact ⟨ao6, c6, rfl, h1, HSRC.out _ ((K5.out.wide (fun g _ e => hwid g e)).trans (Kept.of_below bb6)), bb6, bb6.size⟩
  have KEYB : Hid (∀ w6 v6 v7 w7, Below w5.heap.size w5 w6 → w6.ownsRow w5.heap.size 5 1 v6 (0) (bv ([])) → w7.ownsRow w5.heap.size 5 1 v7 (t.length) (bv (t)) → w6.grownBy w7 v6.ownBlock → ∃ ao7 c7, v7 = .slice ao7 (t.length) c7 ∧ w7.cell? ⟨w2.heap.size, 0, none⟩ = some (.string ⟨n.toArray⟩) ∧ w7.cell? ⟨w2.heap.size, 1, none⟩ = some (.int .i64 0) ∧ w7.cell? ⟨w2.heap.size, 2, none⟩ = some (.slice none 0 0) ∧ (∀ j, w7.frozen? ⟨w2.heap.size, j, none⟩ = false) ∧
      Hid (RefAt F (w7.setCell ⟨w2.heap.size, 2, none⟩ (.slice ao7 (t.length) c7)) q ao nn c es (Dk.tick r).2) ∧ Hid (Steady (beside F q) (w7.setCell ⟨w2.heap.size, 2, none⟩ (.slice ao7 (t.length) c7)) fun w => Src w ao7 (t).length c7 (t)) ∧ Hid (Kept (At q) w (w7.setCell ⟨w2.heap.size, 2, none⟩ (.slice ao7 (t.length) c7)))) := by
    intro w6 v6 v7 w7 hb6 h0 h1 h2
    obtain ⟨ao7, c7, rfl⟩ := own_slice h1
    have bb7 : Below w5.heap.size w5 w7 := hb6.grown h2 hb6.size (fun g e => (h0.lt g e).1)
    have g7 := (bb7.block w2.heap.size hL5).trans g6.out
    have kk : Kept (At q) w (w7.setCell ⟨w2.heap.size, 2, none⟩ (.slice ao7 (t.length) c7)) := (K5.out.trans (Kept.of_below bb7)).setCell (p := ⟨w2.heap.size, 2, none⟩) (.inr hLq) _
    have hqs : (w7.setCell ⟨w2.heap.size, 2, none⟩ (.slice ao7 (t.length) c7)).heap[q]? = w5.heap[q]? := (Below.heap_setCell w7 ⟨w2.heap.size, 2, none⟩ _ q (fun e => q0 e.symm)).trans (bb7.block q R5.out.box.lt)
    have hlen : (t).length = t.length := by simp
    refine ⟨ao7, c7, rfl, cell_of_row _ _ _ _ _ _ g7, cell_of_row _ _ _ _ _ _ g7, cell_of_row _ _ _ _ _ _ g7, (fun j => by simp [World.frozen?, g7]), HM.out.turn kk (R5.out.box.same hqs) (Dk.tick_files r).1 R5.out.good (Dk.tick_files r).2 R5.out.leftb, ?_, kk⟩
    have ho8 : (w7.setCell ⟨w2.heap.size, 2, none⟩ (.slice ao7 (t.length) c7)).ownsRow w5.heap.size 5 1 (.slice ao7 (t.length) c7) (t.length) (bv (t)) := own_block h1 (fun g hg => Below.heap_setCell w7 ⟨w2.heap.size, 2, none⟩ _ g (fun e => by have h3 := (h1.lt g hg).1; have : g = w2.heap.size := e; omega))
    rw [hlen]
    intro w8 hk8
    obtain ⟨ao9, c9, e9, hs9, _⟩ := Src.of_own (own_steady ho8 (fun g hg => Nat.lt_of_lt_of_le (HM.out.inside g hg) hw5) w8 hk8)
    cases e9
    exact hs9
  obtain ⟨i00, hi0, hz0, hz1, hz2⟩ := info_parts info5
  clear k2
  go_wp2_with (first
    | (at_builtin; refine wpList_append_src rfl _ _ 35 rfl w5.heap.size i00 _ Try.underlying35 hi0 hz0 hz1 hz2 rfl _ (0) ([]) rfl a1.out _ t.length c2 t rfl a2.out (by omega) a4.out ?_; intro v7 w7 ho7 hg7; simp only [Nat.zero_add, List.nil_append] at ho7; obtain ⟨ao7, c7, rfl, n0, n1, n2, nz, m1, m2, m3⟩ := KEYB.out _ _ v7 w7 a3.out a1.out ho7 hg7; clear ho7 hg7)
    | (at_builtin; refine wpList_append_src rfl _ _ 35 rfl w5.heap.size i00 _ Try.underlying35 hi0 hz0 hz1 hz2 rfl _ 0 [] rfl (World.ownsRow_made w5 #[] 0 (Nat.le_refl _) (by unfold maxLen; omega) rfl) _ (0) 0 ([]) rfl S5.out (by omega) (by simp) ?_; intro v6 w6 ho6 hg6; simp only [Nat.zero_add, List.nil_append] at ho6; obtain ⟨ao6, c6, rfl, a1, a2, a3, a4⟩ := KEYA.out v6 w6 ho6 hg6; clear ho6 hg6))
  have hput := rput_any (beside F q) q _ _ _ c es _ _ _ _ n 0 ao7 c7 (t) _ m1.out.box m1.out.rows m1.out.few (.inr rfl) m1.out.inside m1.out.good.rising m2.out
  rw [show ((0 : Nat) : Int) = 0 from rfl] at hput
  refine hput.mono ?_
  rintro e w9 ⟨rfl, ⟨ao', c', es', hb9, hr9⟩, hk9⟩
  have hgood : Dk.Good { (Dk.tick r).2 with files := Dk.put r.files ⟨n, 0, t⟩ } := by
    have h1 := Dk.raw_good 0 n [] t HM.out.good
    have hC := HC.out
    have hF2 := HF.out
    rw [Dk.raw_do (l := Dk.put r.files ⟨n, 0, t⟩) (by show (Dk.named n && decide (t.length ≤ 4096)) = true; rw [hn, decide_eq_true (by omega)]; rfl) HD.out (by
      simp only [Dk.planOf, Dk.planAppend, HX.out]
      rw [if_neg (by omega)]), Dk.write_go HT.out] at h1
    exact h1
  rw [(Dk.tick_files r).1] at hb9 hr9
  have FIN := keep (m1.out.files hk9 hb9 hr9 hgood)
  have K9 := keep (m3.out.trans hk9)
  clear hb9 hr9 hk9 hgood hput
  go_wp2
  go_ret
  exact ⟨rfl, ⟨_, _, _, _, FIN.out⟩, K9.out⟩
end Go.Proofs.Ytfjhfecjbheipaa
