/- The walks of the document's Remove and Sync. -/
import Derived.Test.YtipkacaekbckhaaR3
namespace Go.Proofs.Ytipkacaekbckhaa
open Go.RowKit
open Dk (File Disk)

set_option maxHeartbeats 1000000 in
set_option maxRecDepth 100000 in
theorem rremove_arg (F : Nat → Prop) (q : Nat) (r : Disk) (n : List UInt8) (w : World) (h : Ref F w q r) (hn : Dk.named n = false) :
    Calls Try.prog 44 #[.pointer (some ⟨q, 0, none⟩), .string ⟨n.toArray⟩] w fun e w' => e = .returned (.int .i64 1) ∧ Below w.heap.size w w' := by
  obtain ⟨ao, nn, c, es, h⟩ := h
  have HM := keep h
  clear h
  go_enter Try.func44, Try.ntmps44
  go_wp2_with fail
  refine (rnamed_any n _).mono ?_
  rintro e w1 ⟨rfl, hb⟩
  have b1 := keep hb
  clear hb
  rw [hn]
  go_wp2_with fail
  refine (rright_any false q _ _ _ _ r.dark _ (HM.out.below b1.out).box).mono ?_
  rintro e w2 ⟨rfl, hb⟩
  have b2 := keep (b1.out.trans (hb.mono b1.out.size))
  clear hb
  go_wp2
  go_ret
  exact ⟨rfl, b2.out⟩
set_option maxHeartbeats 1000000 in
set_option maxRecDepth 100000 in
theorem rremove_dark (F : Nat → Prop) (q : Nat) (r : Disk) (n : List UInt8) (w : World) (h : Ref F w q r) (hn : Dk.named n = true) (hd : r.dark = true) :
    Calls Try.prog 44 #[.pointer (some ⟨q, 0, none⟩), .string ⟨n.toArray⟩] w fun e w' => e = .returned (.int .i64 5) ∧ Below w.heap.size w w' := by
  obtain ⟨ao, nn, c, es, h⟩ := h
  have HM := keep h
  clear h
  have HD := keep hd
  clear hd
  go_enter Try.func44, Try.ntmps44
  go_wp2_with fail
  refine (rnamed_any n _).mono ?_
  rintro e w1 ⟨rfl, hb⟩
  have b1 := keep hb
  clear hb
  rw [hn]
  go_wp2_with fail
  refine (rright_any true q _ _ _ _ r.dark _ (HM.out.below b1.out).box).mono ?_
  rintro e w2 ⟨rfl, hb⟩
  have b2 := keep (b1.out.trans (hb.mono b1.out.size))
  clear hb
  rw [HD.out]
  go_wp2
  go_ret
  exact ⟨rfl, b2.out⟩
set_option maxHeartbeats 1000000 in
set_option maxRecDepth 100000 in
theorem rremove_none (F : Nat → Prop) (q : Nat) (r : Disk) (n : List UInt8) (w : World) (h : Ref F w q r) (hn : Dk.named n = true) (hd : r.dark = false) (hx : Dk.look r.files n = none) :
    Calls Try.prog 44 #[.pointer (some ⟨q, 0, none⟩), .string ⟨n.toArray⟩] w fun e w' => e = .returned (.int .i64 3) ∧ Below w.heap.size w w' := by
  obtain ⟨ao, nn, c, es, h⟩ := h
  have HM := keep h
  clear h
  have HD := keep hd
  have HX := keep hx
  clear hd hx
  go_enter Try.func44, Try.ntmps44
  go_wp2_with fail
  refine (rnamed_any n _).mono ?_
  rintro e w1 ⟨rfl, hb⟩
  have b1 := keep hb
  clear hb
  rw [hn]
  go_wp2_with fail
  refine (rright_any true q _ _ _ _ r.dark _ (HM.out.below b1.out).box).mono ?_
  rintro e w2 ⟨rfl, hb⟩
  have b2 := keep (b1.out.trans (hb.mono b1.out.size))
  clear hb
  rw [HD.out]
  go_wp2_with fail
  refine (rhas_any _ q ao nn c es r.files n _ (HM.out.below b2.out).box.c1 (HM.out.below b2.out).rows HM.out.few).mono ?_
  rintro e w3 ⟨rfl, hb⟩
  have b3 := keep (b2.out.trans (hb.mono b2.out.size))
  clear hb
  rw [HX.out]
  go_wp2
  go_ret
  exact ⟨rfl, b3.out⟩
set_option maxHeartbeats 1000000 in
set_option maxRecDepth 100000 in
theorem rremove_cut (F : Nat → Prop) (q : Nat) (r : Disk) (n nm : List UInt8) (sf : Nat) (fb : List UInt8) (w : World) (h : Ref F w q r) (hn : Dk.named n = true) (hd : r.dark = false) (hx : Dk.look r.files n = some ⟨nm, sf, fb⟩) (ho0 : r.done ≤ 4611686018427387904) (ht : (Dk.tick r).1 = false) :
    Calls Try.prog 44 #[.pointer (some ⟨q, 0, none⟩), .string ⟨n.toArray⟩] w fun e w' => RefPost F w q (5, (Dk.tick r).2) e w' := by
  obtain ⟨ao, nn, c, es, h⟩ := h
  have HM := keep h
  clear h
  have HD := keep hd
  have HX := keep hx
  clear hd hx
  have HT := keep ht
  clear ht
  go_enter Try.func44, Try.ntmps44
  go_wp2_with fail
  refine (rnamed_any n _).mono ?_
  rintro e w1 ⟨rfl, hb⟩
  have b1 := keep hb
  clear hb
  rw [hn]
  go_wp2_with fail
  refine (rright_any true q _ _ _ _ r.dark _ (HM.out.below b1.out).box).mono ?_
  rintro e w2 ⟨rfl, hb⟩
  have b2 := keep (b1.out.trans (hb.mono b1.out.size))
  clear hb
  rw [HD.out]
  go_wp2_with fail
  refine (rhas_any _ q ao nn c es r.files n _ (HM.out.below b2.out).box.c1 (HM.out.below b2.out).rows HM.out.few).mono ?_
  rintro e w3 ⟨rfl, hb⟩
  have b3 := keep (b2.out.trans (hb.mono b2.out.size))
  clear hb
  rw [HX.out]
  go_wp2_with fail
  refine (rstep_ref F q ao nn c es r _ (HM.out.below b3.out) HD.out ho0).mono ?_
  rintro e w5 ⟨rfl, hr5, hk5⟩
  rw [HT.out]
  have R5 := keep hr5
  have K5 := keep ((Kept.of_below (U := At q) b3.out).trans hk5)
  clear hr5 hk5
  go_wp2
  go_ret
  exact ⟨rfl, ⟨_, _, _, _, R5.out⟩, K5.out⟩
set_option maxHeartbeats 1000000 in
set_option maxRecDepth 100000 in
theorem rremove_go (F : Nat → Prop) (q : Nat) (r : Disk) (n nm : List UInt8) (sf : Nat) (fb : List UInt8) (w : World) (h : Ref F w q r) (hn : Dk.named n = true) (hd : r.dark = false) (hx : Dk.look r.files n = some ⟨nm, sf, fb⟩) (ho0 : r.done ≤ 4611686018427387904) (ht : (Dk.tick r).1 = true) :
    Calls Try.prog 44 #[.pointer (some ⟨q, 0, none⟩), .string ⟨n.toArray⟩] w fun e w' => RefPost F w q (0, { (Dk.tick r).2 with files := Dk.drop r.files n }) e w' := by
  obtain ⟨ao, nn, c, es, h⟩ := h
  have HM := keep h
  clear h
  have HD := keep hd
  have HX := keep hx
  clear hd hx
  have HT := keep ht
  clear ht
  go_enter Try.func44, Try.ntmps44
  go_wp2_with fail
  refine (rnamed_any n _).mono ?_
  rintro e w1 ⟨rfl, hb⟩
  have b1 := keep hb
  clear hb
  rw [hn]
  go_wp2_with fail
  refine (rright_any true q _ _ _ _ r.dark _ (HM.out.below b1.out).box).mono ?_
  rintro e w2 ⟨rfl, hb⟩
  have b2 := keep (b1.out.trans (hb.mono b1.out.size))
  clear hb
  rw [HD.out]
  go_wp2_with fail
  refine (rhas_any _ q ao nn c es r.files n _ (HM.out.below b2.out).box.c1 (HM.out.below b2.out).rows HM.out.few).mono ?_
  rintro e w3 ⟨rfl, hb⟩
  have b3 := keep (b2.out.trans (hb.mono b2.out.size))
  clear hb
  rw [HX.out]
  go_wp2_with fail
  refine (rstep_ref F q ao nn c es r _ (HM.out.below b3.out) HD.out ho0).mono ?_
  rintro e w5 ⟨rfl, hr5, hk5⟩
  rw [HT.out]
  have R5 := keep hr5
  have K5 := keep ((Kept.of_below (U := At q) b3.out).trans hk5)
  clear hr5 hk5
  go_wp2_with fail
  refine (rdrop_any (beside F q) q _ ao nn c es _ _ _ _ n _ R5.out.box R5.out.rows R5.out.few (.inr rfl) R5.out.inside).mono ?_
  rintro e w6 ⟨rfl, ⟨ao', c', es', hb6, hr6⟩, hk6⟩
  have hgood : Dk.Good { (Dk.tick r).2 with files := Dk.drop r.files n } := by
    have h1 := Dk.raw_good 3 n [] [] HM.out.good
    rw [Dk.raw_do (l := Dk.drop r.files n) (by exact hn) HD.out (by simp only [Dk.planOf, Dk.planRemove, HX.out]), Dk.write_go HT.out] at h1
    exact h1
  rw [(Dk.tick_files r).1] at hb6 hr6
  have FIN := keep (R5.out.files hk6 hb6 hr6 hgood)
  have K6 := keep (K5.out.trans hk6)
  clear hb6 hr6 hk6 hgood
  go_wp2
  go_ret
  exact ⟨rfl, ⟨_, _, _, _, FIN.out⟩, K6.out⟩
theorem rremove_raw (F : Nat → Prop) (q : Nat) (r : Disk) (n : List UInt8) (w : World) (h : Ref F w q r) (ho : r.done ≤ 4611686018427387904) (x y : List UInt8) :
    Calls Try.prog 44 #[.pointer (some ⟨q, 0, none⟩), .string ⟨n.toArray⟩] w fun e w' => RefPost F w q (Dk.raw r 3 n x y) e w' := by
  have stay : ∀ w', Below w.heap.size w w' → Ref F w' q r ∧ Kept (At q) w w' := fun w' hb => by
    obtain ⟨_, _, _, _, h⟩ := h
    exact h.stay hb
  cases hna : Dk.named n with
  | false =>
    rw [Dk.raw_arg (by exact hna)]
    refine (rremove_arg F q r n w h hna).mono ?_
    rintro e w' ⟨rfl, hb⟩
    exact ⟨rfl, stay w' hb⟩
  | true =>
    cases hd : r.dark with
    | true =>
      rw [Dk.raw_dark (by exact hna) hd]
      refine (rremove_dark F q r n w h hna hd).mono ?_
      rintro e w' ⟨rfl, hb⟩
      exact ⟨rfl, stay w' hb⟩
    | false =>
      cases hx : Dk.look r.files n with
      | none =>
        rw [Dk.raw_own (e := 3) (by exact hna) hd (by simp only [Dk.planOf, Dk.planRemove, hx])]
        refine (rremove_none F q r n w h hna hd hx).mono ?_
        rintro e w' ⟨rfl, hb⟩
        exact ⟨rfl, stay w' hb⟩
      | some f =>
        obtain ⟨nm, sf, fb⟩ := f
        rw [Dk.raw_do (l := Dk.drop r.files n) (by exact hna) hd (by simp only [Dk.planOf, Dk.planRemove, hx])]
        cases ht : (Dk.tick r).1 with
        | false => rw [Dk.write_cut ht]; exact rremove_cut F q r n nm sf fb w h hna hd hx ho ht
        | true => rw [Dk.write_go ht]; exact rremove_go F q r n nm sf fb w h hna hd hx ho ht
set_option maxHeartbeats 1000000 in
set_option maxRecDepth 100000 in
theorem rsync_arg (F : Nat → Prop) (q : Nat) (r : Disk) (n : List UInt8) (w : World) (h : Ref F w q r) (hn : Dk.named n = false) :
    Calls Try.prog 42 #[.pointer (some ⟨q, 0, none⟩), .string ⟨n.toArray⟩] w fun e w' => e = .returned (.int .i64 1) ∧ Below w.heap.size w w' := by
  obtain ⟨ao, nn, c, es, h⟩ := h
  have HM := keep h
  clear h
  go_enter Try.func42, Try.ntmps42
  go_wp2_with fail
  refine (rnamed_any n _).mono ?_
  rintro e w1 ⟨rfl, hb⟩
  have b1 := keep hb
  clear hb
  rw [hn]
  go_wp2_with fail
  refine (rright_any false q _ _ _ _ r.dark _ (HM.out.below b1.out).box).mono ?_
  rintro e w2 ⟨rfl, hb⟩
  have b2 := keep (b1.out.trans (hb.mono b1.out.size))
  clear hb
  go_wp2
  go_ret
  exact ⟨rfl, b2.out⟩
set_option maxHeartbeats 1000000 in
set_option maxRecDepth 100000 in
theorem rsync_dark (F : Nat → Prop) (q : Nat) (r : Disk) (n : List UInt8) (w : World) (h : Ref F w q r) (hn : Dk.named n = true) (hd : r.dark = true) :
    Calls Try.prog 42 #[.pointer (some ⟨q, 0, none⟩), .string ⟨n.toArray⟩] w fun e w' => e = .returned (.int .i64 5) ∧ Below w.heap.size w w' := by
  obtain ⟨ao, nn, c, es, h⟩ := h
  have HM := keep h
  clear h
  have HD := keep hd
  clear hd
  go_enter Try.func42, Try.ntmps42
  go_wp2_with fail
  refine (rnamed_any n _).mono ?_
  rintro e w1 ⟨rfl, hb⟩
  have b1 := keep hb
  clear hb
  rw [hn]
  go_wp2_with fail
  refine (rright_any true q _ _ _ _ r.dark _ (HM.out.below b1.out).box).mono ?_
  rintro e w2 ⟨rfl, hb⟩
  have b2 := keep (b1.out.trans (hb.mono b1.out.size))
  clear hb
  rw [HD.out]
  go_wp2
  go_ret
  exact ⟨rfl, b2.out⟩
set_option maxHeartbeats 1000000 in
set_option maxRecDepth 100000 in
theorem rsync_none (F : Nat → Prop) (q : Nat) (r : Disk) (n : List UInt8) (w : World) (h : Ref F w q r) (hn : Dk.named n = true) (hd : r.dark = false) (hx : Dk.look r.files n = none) :
    Calls Try.prog 42 #[.pointer (some ⟨q, 0, none⟩), .string ⟨n.toArray⟩] w fun e w' => e = .returned (.int .i64 3) ∧ Below w.heap.size w w' := by
  obtain ⟨ao, nn, c, es, h⟩ := h
  have HM := keep h
  clear h
  have HD := keep hd
  have HX := keep hx
  clear hd hx
  go_enter Try.func42, Try.ntmps42
  go_wp2_with fail
  refine (rnamed_any n _).mono ?_
  rintro e w1 ⟨rfl, hb⟩
  have b1 := keep hb
  clear hb
  rw [hn]
  go_wp2_with fail
  refine (rright_any true q _ _ _ _ r.dark _ (HM.out.below b1.out).box).mono ?_
  rintro e w2 ⟨rfl, hb⟩
  have b2 := keep (b1.out.trans (hb.mono b1.out.size))
  clear hb
  rw [HD.out]
  go_wp2_with fail
  refine (rat_any _ q ao nn c es r.files n _ (HM.out.below b2.out).box.c1 (HM.out.below b2.out).rows HM.out.few).mono ?_
  rintro e w3 ⟨he, hb⟩
  have b3 := keep (b2.out.trans (hb.mono b2.out.size))
  clear hb
  rw [HX.out] at he
  obtain rfl : e = .returned (.int .i64 (-1)) := by
    rcases he with ⟨_, h1⟩ | ⟨i, f, _, h1, _⟩
    · exact h1
    · cases h1
  clear he
  go_wp2
  go_ret
  exact ⟨rfl, b3.out⟩
set_option maxHeartbeats 1000000 in
set_option maxRecDepth 100000 in
theorem rsync_cut (F : Nat → Prop) (q : Nat) (r : Disk) (n nm : List UInt8) (sf : Nat) (fb : List UInt8) (w : World) (h : Ref F w q r) (hn : Dk.named n = true) (hd : r.dark = false) (hx : Dk.look r.files n = some ⟨nm, sf, fb⟩) (ho0 : r.done ≤ 4611686018427387904) (ht : (Dk.tick r).1 = false) :
    Calls Try.prog 42 #[.pointer (some ⟨q, 0, none⟩), .string ⟨n.toArray⟩] w fun e w' => RefPost F w q (5, (Dk.tick r).2) e w' := by
  obtain ⟨ao, nn, c, es, h⟩ := h
  have HM := keep h
  clear h
  have HD := keep hd
  have HX := keep hx
  clear hd hx
  have HT := keep ht
  clear ht
  go_enter Try.func42, Try.ntmps42
  go_wp2_with fail
  refine (rnamed_any n _).mono ?_
  rintro e w1 ⟨rfl, hb⟩
  have b1 := keep hb
  clear hb
  rw [hn]
  go_wp2_with fail
  refine (rright_any true q _ _ _ _ r.dark _ (HM.out.below b1.out).box).mono ?_
  rintro e w2 ⟨rfl, hb⟩
  have b2 := keep (b1.out.trans (hb.mono b1.out.size))
  clear hb
  rw [HD.out]
  go_wp2_with fail
  refine (rat_any _ q ao nn c es r.files n _ (HM.out.below b2.out).box.c1 (HM.out.below b2.out).rows HM.out.few).mono ?_
  rintro e w3 ⟨he, hb⟩
  have b3 := keep (b2.out.trans (hb.mono b2.out.size))
  clear hb
  rw [HX.out] at he
  obtain ⟨i, hi, rfl⟩ : ∃ i : Nat, r.files[i]? = some ⟨nm, sf, fb⟩ ∧ e = .returned (.int .i64 (i : Int)) := by
    rcases he with ⟨h1, _⟩ | ⟨i, f, h1, h2, h3⟩
    · cases h1
    · cases h2
      exact ⟨i, h1, h3⟩
  have HI := keep hi
  have i0 : (0 : Int) ≤ (i : Int) := by omega
  have i1 : i < nn := by
    have h1 := (List.getElem?_eq_some_iff.1 hi).1
    have h2 := HM.out.rows.len
    omega
  have i2 : (i : Int) < (nn : Int) := by omega
  clear he hi
  go_wp2_with fail
  refine (rstep_ref F q ao nn c es r _ (HM.out.below b3.out) HD.out ho0).mono ?_
  rintro e w5 ⟨rfl, hr5, hk5⟩
  rw [HT.out]
  have R5 := keep hr5
  have K5 := keep ((Kept.of_below (U := At q) b3.out).trans hk5)
  clear hr5 hk5
  go_wp2
  go_ret
  exact ⟨rfl, ⟨_, _, _, _, R5.out⟩, K5.out⟩
set_option maxHeartbeats 1000000 in
set_option maxRecDepth 100000 in
theorem rsync_go (F : Nat → Prop) (q : Nat) (r : Disk) (n nm : List UInt8) (sf : Nat) (fb : List UInt8) (w : World) (h : Ref F w q r) (hn : Dk.named n = true) (hd : r.dark = false) (hx : Dk.look r.files n = some ⟨nm, sf, fb⟩) (ho0 : r.done ≤ 4611686018427387904) (ht : (Dk.tick r).1 = true) :
    Calls Try.prog 42 #[.pointer (some ⟨q, 0, none⟩), .string ⟨n.toArray⟩] w fun e w' => RefPost F w q (0, { (Dk.tick r).2 with files := Dk.put r.files ⟨nm, fb.length, fb⟩ }) e w' := by
  obtain ⟨ao, nn, c, es, h⟩ := h
  have HM := keep h
  clear h
  have HD := keep hd
  have HX := keep hx
  clear hd hx
  have HT := keep ht
  clear ht
  go_enter Try.func42, Try.ntmps42
  go_wp2_with fail
  refine (rnamed_any n _).mono ?_
  rintro e w1 ⟨rfl, hb⟩
  have b1 := keep hb
  clear hb
  rw [hn]
  go_wp2_with fail
  refine (rright_any true q _ _ _ _ r.dark _ (HM.out.below b1.out).box).mono ?_
  rintro e w2 ⟨rfl, hb⟩
  have b2 := keep (b1.out.trans (hb.mono b1.out.size))
  clear hb
  rw [HD.out]
  go_wp2_with fail
  refine (rat_any _ q ao nn c es r.files n _ (HM.out.below b2.out).box.c1 (HM.out.below b2.out).rows HM.out.few).mono ?_
  rintro e w3 ⟨he, hb⟩
  have b3 := keep (b2.out.trans (hb.mono b2.out.size))
  clear hb
  rw [HX.out] at he
  obtain ⟨i, hi, rfl⟩ : ∃ i : Nat, r.files[i]? = some ⟨nm, sf, fb⟩ ∧ e = .returned (.int .i64 (i : Int)) := by
    rcases he with ⟨h1, _⟩ | ⟨i, f, h1, h2, h3⟩
    · cases h1
    · cases h2
      exact ⟨i, h1, h3⟩
  have HI := keep hi
  have i0 : (0 : Int) ≤ (i : Int) := by omega
  have i1 : i < nn := by
    have h1 := (List.getElem?_eq_some_iff.1 hi).1
    have h2 := HM.out.rows.len
    omega
  have i2 : (i : Int) < (nn : Int) := by omega
  clear he hi
  go_wp2_with fail
  refine (rstep_ref F q ao nn c es r _ (HM.out.below b3.out) HD.out ho0).mono ?_
  rintro e w5 ⟨rfl, hr5, hk5⟩
  rw [HT.out]
  have R5 := keep hr5
  have K5 := keep ((Kept.of_below (U := At q) b3.out).trans hk5)
  clear hr5 hk5
  obtain ⟨bb, off, rfl, hbl, hat⟩ := R5.out.rows.at_ (by omega)
  obtain ⟨p, k, hek, hc0, hc1, hc2⟩ := hat i ⟨nm, sf, fb⟩ (by rw [(Dk.tick_files r).1]; exact HI.out)
  have hhe := keep (R5.out.rows.held (List.mem_of_getElem? hek))
  have cq := R5.out.box.c1
  clear hat hek
  have B5 := keep ((Below.refl w5.heap.size w5).alloc (Nat.le_refl _) (.cells #[.string ⟨nm.toArray⟩, .int .i64 (fb.length : Int), .slice p fb.length k] 76))
  have R6 := keep (R5.out.below B5.out)
  have hst := keep (hhe.out.below B5.out)
  go_wp2_with fail
  refine (rput_any (beside F q) q _ _ _ c es _ _ _ _ nm (fb.length) p k fb _ R6.out.box R6.out.rows R6.out.few (.inr rfl) R6.out.inside R6.out.good.rising hst.out).mono ?_
  rintro e w6 ⟨rfl, ⟨ao', c', es', hb6, hr6⟩, hk6⟩
  have hgood : Dk.Good { (Dk.tick r).2 with files := Dk.put r.files ⟨nm, fb.length, fb⟩ } := by
    have h1 := Dk.raw_good 1 n [] [] HM.out.good
    rw [Dk.raw_do (l := Dk.put r.files ⟨nm, fb.length, fb⟩) (by exact hn) HD.out (by simp only [Dk.planOf, Dk.planSync, HX.out]), Dk.write_go HT.out] at h1
    exact h1
  rw [(Dk.tick_files r).1] at hb6 hr6
  have FIN := keep (R6.out.files hk6 hb6 hr6 hgood)
  have K6 := keep ((K5.out.trans (Kept.of_below B5.out)).trans hk6)
  clear hb6 hr6 hk6 hgood
  go_wp2
  go_ret
  exact ⟨rfl, ⟨_, _, _, _, FIN.out⟩, K6.out⟩
theorem rsync_raw (F : Nat → Prop) (q : Nat) (r : Disk) (n : List UInt8) (w : World) (h : Ref F w q r) (ho : r.done ≤ 4611686018427387904) (x y : List UInt8) :
    Calls Try.prog 42 #[.pointer (some ⟨q, 0, none⟩), .string ⟨n.toArray⟩] w fun e w' => RefPost F w q (Dk.raw r 1 n x y) e w' := by
  have stay : ∀ w', Below w.heap.size w w' → Ref F w' q r ∧ Kept (At q) w w' := fun w' hb => by
    obtain ⟨_, _, _, _, h⟩ := h
    exact h.stay hb
  cases hna : Dk.named n with
  | false =>
    rw [Dk.raw_arg (by exact hna)]
    refine (rsync_arg F q r n w h hna).mono ?_
    rintro e w' ⟨rfl, hb⟩
    exact ⟨rfl, stay w' hb⟩
  | true =>
    cases hd : r.dark with
    | true =>
      rw [Dk.raw_dark (by exact hna) hd]
      refine (rsync_dark F q r n w h hna hd).mono ?_
      rintro e w' ⟨rfl, hb⟩
      exact ⟨rfl, stay w' hb⟩
    | false =>
      cases hx : Dk.look r.files n with
      | none =>
        rw [Dk.raw_own (e := 3) (by exact hna) hd (by simp only [Dk.planOf, Dk.planSync, hx])]
        refine (rsync_none F q r n w h hna hd hx).mono ?_
        rintro e w' ⟨rfl, hb⟩
        exact ⟨rfl, stay w' hb⟩
      | some f =>
        obtain ⟨nm, sf, fb⟩ := f
        rw [Dk.raw_do (l := Dk.put r.files ⟨nm, fb.length, fb⟩) (by exact hna) hd (by simp only [Dk.planOf, Dk.planSync, hx])]
        cases ht : (Dk.tick r).1 with
        | false => rw [Dk.write_cut ht]; exact rsync_cut F q r n nm sf fb w h hna hd hx ho ht
        | true => rw [Dk.write_go ht]; exact rsync_go F q r n nm sf fb w h hna hd hx ho ht
end Go.Proofs.Ytipkacaekbckhaa
