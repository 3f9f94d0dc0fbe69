/- The document's Append, all its cases; the walk of its Rename: refused, or the cut. -/
/- The walk of the document's Rename: it is done; all its cases. -/
import Derived.Test.YtfjhfecjbheipaaJoinR6
import Derived.Deep.QuietTactic
import Derived.BigQuiet
namespace Go.Proofs.Ytfjhfecjbheipaa
open Go.RowKit
open Dk (File Disk)

set_option maxHeartbeats 1000000 in
set_option maxRecDepth 100000 in
theorem rappend_arg (F : Nat → Prop) (q : Nat) (r : Disk) (n t : List UInt8) (ao2 : Option Addr) (c2 : Nat) (w : World) (h : Ref F w q r) (hn : Dk.named n = false) :
    Calls Try.prog 30 #[.pointer (some ⟨q, 0, none⟩), .string ⟨n.toArray⟩, .slice ao2 t.length c2] w fun e w' => e = .returned (.int .i64 1) ∧ Below w.heap.size w w' := by
  obtain ⟨ao, nn, c, es, h⟩ := h
  have HM := keep h
  clear h
  go_enter Try.func30, Try.ntmps30
  go_wp2_with fail
  refine (rnamed_any n _).mono ?_
  rintro e w1 ⟨rfl, hb⟩
  have b1 := keep hb
  clear hb
  rw [hn]
  go_wp2_with fail
  refine (rright_any false q _ _ _ _ r.dark _ (HM.out.below b1.out).box).mono ?_
  rintro e w2 ⟨rfl, hb⟩
  have b2 := keep (b1.out.trans (hb.mono b1.out.size))
  clear hb
  go_wp2
  go_ret
  exact ⟨rfl, b2.out⟩
set_option maxHeartbeats 1000000 in
set_option maxRecDepth 100000 in
theorem rappend_long (F : Nat → Prop) (q : Nat) (r : Disk) (n t : List UInt8) (ao2 : Option Addr) (c2 : Nat) (w : World) (h : Ref F w q r) (hn : Dk.named n = true) (htl : ¬ (t.length : Int) ≤ 4096) :
    Calls Try.prog 30 #[.pointer (some ⟨q, 0, none⟩), .string ⟨n.toArray⟩, .slice ao2 t.length c2] w fun e w' => e = .returned (.int .i64 1) ∧ Below w.heap.size w w' := by
  obtain ⟨ao, nn, c, es, h⟩ := h
  have HM := keep h
  clear h
  have HTL := keep htl
  clear htl
  go_enter Try.func30, Try.ntmps30
  go_wp2_with fail
  refine (rnamed_any n _).mono ?_
  rintro e w1 ⟨rfl, hb⟩
  have b1 := keep hb
  clear hb
  rw [hn]
  go_wp2_with fail
  refine (rright_any _ q _ _ _ _ r.dark _ (HM.out.below b1.out).box).mono ?_
  rintro e w2 ⟨rfl, hb⟩
  have b2 := keep (b1.out.trans (hb.mono b1.out.size))
  clear hb
  rw [decide_eq_false (show ¬ (t.length : Int) ≤ 4096 by have := HTL.out; omega)]
  go_wp2
  go_ret
  exact ⟨rfl, b2.out⟩
set_option maxHeartbeats 1000000 in
set_option maxRecDepth 100000 in
theorem rappend_dark (F : Nat → Prop) (q : Nat) (r : Disk) (n t : List UInt8) (ao2 : Option Addr) (c2 : Nat) (w : World) (h : Ref F w q r) (hn : Dk.named n = true) (htl : (t.length : Int) ≤ 4096) (hd : r.dark = true) :
    Calls Try.prog 30 #[.pointer (some ⟨q, 0, none⟩), .string ⟨n.toArray⟩, .slice ao2 t.length c2] w fun e w' => e = .returned (.int .i64 5) ∧ Below w.heap.size w w' := by
  obtain ⟨ao, nn, c, es, h⟩ := h
  have HM := keep h
  clear h
  have HD := keep hd
  clear hd
  go_enter Try.func30, Try.ntmps30
  go_wp2_with fail
  refine (rnamed_any n _).mono ?_
  rintro e w1 ⟨rfl, hb⟩
  have b1 := keep hb
  clear hb
  rw [hn]
  go_wp2_with fail
  refine (rright_any true q _ _ _ _ r.dark _ (HM.out.below b1.out).box).mono ?_
  rintro e w2 ⟨rfl, hb⟩
  have b2 := keep (b1.out.trans (hb.mono b1.out.size))
  clear hb
  rw [HD.out]
  go_wp2
  go_ret
  exact ⟨rfl, b2.out⟩
theorem rappend_raw (F : Nat → Prop) (q : Nat) (r : Disk) (n t : List UInt8) (ao2 : Option Addr) (c2 : Nat) (w : World) (h : Ref F w q r) (hsrc : Steady (beside F q) w fun w => Src w ao2 t.length c2 t) (ho : r.done ≤ 4611686018427387904) (x : List UInt8) :
    Calls Try.prog 30 #[.pointer (some ⟨q, 0, none⟩), .string ⟨n.toArray⟩, .slice ao2 t.length c2] w fun e w' => RefPost F w q (Dk.raw r 0 n x t) e w' := by
  have stay : ∀ w', Below w.heap.size w w' → Ref F w' q r ∧ Kept (At q) w w' := fun w' hb => by
    obtain ⟨_, _, _, _, h⟩ := h
    exact h.stay hb
  cases hna : Dk.named n with
  | false =>
    rw [Dk.raw_arg (by show (Dk.named n && decide (t.length ≤ 4096)) = false; rw [hna]; rfl)]
    refine (rappend_arg F q r n t ao2 c2 w h hna).mono ?_
    rintro e w' ⟨rfl, hb⟩
    exact ⟨rfl, stay w' hb⟩
  | true =>
    rcases Nat.lt_or_ge 4096 t.length with hl | hl
    · rw [Dk.raw_arg (by show (Dk.named n && decide (t.length ≤ 4096)) = false; rw [decide_eq_false (by omega), Bool.and_false])]
      refine (rappend_long F q r n t ao2 c2 w h hna (by omega)).mono ?_
      rintro e w' ⟨rfl, hb⟩
      exact ⟨rfl, stay w' hb⟩
    have htl : (t.length : Int) ≤ 4096 := by omega
    have hok : Dk.okay 0 n x t = true := by show (Dk.named n && decide (t.length ≤ 4096)) = true; rw [hna, decide_eq_true hl]; rfl
    cases hd : r.dark with
    | true =>
      rw [Dk.raw_dark hok hd]
      refine (rappend_dark F q r n t ao2 c2 w h hna htl hd).mono ?_
      rintro e w' ⟨rfl, hb⟩
      exact ⟨rfl, stay w' hb⟩
    | false =>
      cases hx : Dk.look r.files n with
      | none =>
        by_cases hf : ((r.cap : Int) - (Dk.used r.files : Int)) < ((t.length : Int) + 16 + (n.length : Int))
        · rw [Dk.raw_own (e := 4) hok hd (by simp only [Dk.planOf, Dk.planAppend, hx]; rw [if_pos (by omega)])]
          refine (rappend_new_full F q r n t ao2 c2 w h hna htl hd hx hf).mono ?_
          rintro e w' ⟨rfl, hb⟩
          exact ⟨rfl, stay w' hb⟩
        · rw [Dk.raw_do (l := Dk.put r.files ⟨n, 0, t⟩) hok hd (by simp only [Dk.planOf, Dk.planAppend, hx]; rw [if_neg (by omega)])]
          cases ht : (Dk.tick r).1 with
          | false => rw [Dk.write_cut ht]; exact rappend_new_cut F q r n t ao2 c2 w h hna htl hd hx hf ho ht
          | true => rw [Dk.write_go ht]; exact rappend_new_go F q r n t ao2 c2 w h hna htl hd hsrc hx hf ho ht
      | some f =>
        obtain ⟨nm, sf, fb⟩ := f
        by_cases hf : ((r.cap : Int) - (Dk.used r.files : Int)) < (t.length : Int)
        · rw [Dk.raw_own (e := 4) hok hd (by simp only [Dk.planOf, Dk.planAppend, hx]; rw [if_pos (by omega)])]
          refine (rappend_there_full F q r n nm t sf fb ao2 c2 w h hna htl hd hx hf).mono ?_
          rintro e w' ⟨rfl, hb⟩
          exact ⟨rfl, stay w' hb⟩
        · rw [Dk.raw_do (l := Dk.put r.files ⟨nm, sf, fb ++ t⟩) hok hd (by simp only [Dk.planOf, Dk.planAppend, hx]; rw [if_neg (by omega)])]
          cases ht : (Dk.tick r).1 with
          | false => rw [Dk.write_cut ht]; exact rappend_there_cut F q r n nm t sf fb ao2 c2 w h hna htl hd hx hf ho ht
          | true => rw [Dk.write_go ht]; exact rappend_there_go F q r n nm t sf fb ao2 c2 w h hna htl hd hsrc hx hf ho ht
theorem rising_inj {fs : List File} (hr : Dk.Rising fs) : ∀ {i k : Nat} {f : File}, fs[k]? = some f → fs[i]? = some f → k = i := by
  induction fs with
  | nil => intro i k f h; simp at h
  | cons a t ih =>
    intro i k f h1 h2
    have no : ∀ j, t[j]? = some a → False := fun j hj => by
      have := hr.1 a (List.mem_of_getElem? hj)
      rw [less_irrefl] at this
      cases this
    cases i with
    | zero =>
      cases k with
      | zero => rfl
      | succ k =>
        simp only [List.getElem?_cons_zero, Option.some.injEq, List.getElem?_cons_succ] at h1 h2
        subst h2
        exact (no k h1).elim
    | succ i =>
      cases k with
      | zero =>
        simp only [List.getElem?_cons_zero, Option.some.injEq, List.getElem?_cons_succ] at h1 h2
        subst h1
        exact (no i h2).elim
      | succ k =>
        simp only [List.getElem?_cons_succ] at h1 h2
        rw [ih hr.2 h1 h2]
set_option maxHeartbeats 1000000 in
set_option maxRecDepth 100000 in
theorem rrename_arg1 (F : Nat → Prop) (q : Nat) (r : Disk) (n n2 : List UInt8) (w : World) (h : Ref F w q r) (hn : Dk.named n = false) :
    Calls Try.prog 33 #[.pointer (some ⟨q, 0, none⟩), .string ⟨n.toArray⟩, .string ⟨n2.toArray⟩] w fun e w' => e = .returned (.int .i64 1) ∧ Below w.heap.size w w' := by
  obtain ⟨ao, nn, c, es, h⟩ := h
  have HM := keep h
  clear h
  go_enter Try.func33, Try.ntmps33
  go_wp2_with fail
  refine (rnamed_any n _).mono ?_
  rintro e w0 ⟨rfl, hb⟩
  have b0 := keep hb
  clear hb
  rw [hn]
  have b1 := b0
  go_wp2_with fail
  refine (rright_any false q _ _ _ _ r.dark _ (HM.out.below b1.out).box).mono ?_
  rintro e w2 ⟨rfl, hb⟩
  have b2 := keep (b1.out.trans (hb.mono b1.out.size))
  clear hb
  go_wp2
  go_ret
  exact ⟨rfl, b2.out⟩
set_option maxHeartbeats 1000000 in
set_option maxRecDepth 100000 in
theorem rrename_arg2 (F : Nat → Prop) (q : Nat) (r : Disk) (n n2 : List UInt8) (w : World) (h : Ref F w q r) (hn : Dk.named n = true) (hn2 : Dk.named n2 = false) :
    Calls Try.prog 33 #[.pointer (some ⟨q, 0, none⟩), .string ⟨n.toArray⟩, .string ⟨n2.toArray⟩] w fun e w' => e = .returned (.int .i64 1) ∧ Below w.heap.size w w' := by
  obtain ⟨ao, nn, c, es, h⟩ := h
  have HM := keep h
  clear h
  go_enter Try.func33, Try.ntmps33
  go_wp2_with fail
  refine (rnamed_any n _).mono ?_
  rintro e w0 ⟨rfl, hb⟩
  have b0 := keep hb
  clear hb
  rw [hn]
  go_wp2_with fail
  refine (rnamed_any n2 _).mono ?_
  rintro e w1 ⟨rfl, hb⟩
  have b1 := keep (b0.out.trans (hb.mono b0.out.size))
  clear hb
  rw [hn2]
  go_wp2_with fail
  refine (rright_any false q _ _ _ _ r.dark _ (HM.out.below b1.out).box).mono ?_
  rintro e w2 ⟨rfl, hb⟩
  have b2 := keep (b1.out.trans (hb.mono b1.out.size))
  clear hb
  go_wp2
  go_ret
  exact ⟨rfl, b2.out⟩
set_option maxHeartbeats 1000000 in
set_option maxRecDepth 100000 in
theorem rrename_dark (F : Nat → Prop) (q : Nat) (r : Disk) (n n2 : List UInt8) (w : World) (h : Ref F w q r) (hn : Dk.named n = true) (hn2 : Dk.named n2 = true) (hd : r.dark = true) :
    Calls Try.prog 33 #[.pointer (some ⟨q, 0, none⟩), .string ⟨n.toArray⟩, .string ⟨n2.toArray⟩] w fun e w' => e = .returned (.int .i64 5) ∧ Below w.heap.size w w' := by
  obtain ⟨ao, nn, c, es, h⟩ := h
  have HM := keep h
  clear h
  have HD := keep hd
  clear hd
  go_enter Try.func33, Try.ntmps33
  go_wp2_with fail
  refine (rnamed_any n _).mono ?_
  rintro e w0 ⟨rfl, hb⟩
  have b0 := keep hb
  clear hb
  rw [hn]
  go_wp2_with fail
  refine (rnamed_any n2 _).mono ?_
  rintro e w1 ⟨rfl, hb⟩
  have b1 := keep (b0.out.trans (hb.mono b0.out.size))
  clear hb
  rw [hn2]
  go_wp2_with fail
  refine (rright_any true q _ _ _ _ r.dark _ (HM.out.below b1.out).box).mono ?_
  rintro e w2 ⟨rfl, hb⟩
  have b2 := keep (b1.out.trans (hb.mono b1.out.size))
  clear hb
  rw [HD.out]
  go_wp2
  go_ret
  exact ⟨rfl, b2.out⟩
set_option maxHeartbeats 1000000 in
set_option maxRecDepth 100000 in
theorem rrename_none_none (F : Nat → Prop) (q : Nat) (r : Disk) (n n2 : List UInt8) (w : World) (h : Ref F w q r) (hn : Dk.named n = true) (hn2 : Dk.named n2 = true) (hd : r.dark = false) (hx : Dk.look r.files n = none) :
    Calls Try.prog 33 #[.pointer (some ⟨q, 0, none⟩), .string ⟨n.toArray⟩, .string ⟨n2.toArray⟩] w fun e w' => e = .returned (.int .i64 3) ∧ Below w.heap.size w w' := by
  obtain ⟨ao, nn, c, es, h⟩ := h
  have HM := keep h
  clear h
  have HD := keep hd
  have HX := keep hx
  clear hd hx
  have hnl : n.length ≤ 100 := (named_true hn).2.1
  have hnl2 : n2.length ≤ 100 := (named_true hn2).2.1
  go_enter Try.func33, Try.ntmps33
  go_wp2_with fail
  refine (rnamed_any n _).mono ?_
  rintro e w0 ⟨rfl, hb⟩
  have b0 := keep hb
  clear hb
  rw [hn]
  go_wp2_with fail
  refine (rnamed_any n2 _).mono ?_
  rintro e w1 ⟨rfl, hb⟩
  have b1 := keep (b0.out.trans (hb.mono b0.out.size))
  clear hb
  rw [hn2]
  go_wp2_with fail
  refine (rright_any true q _ _ _ _ r.dark _ (HM.out.below b1.out).box).mono ?_
  rintro e w2 ⟨rfl, hb⟩
  have b2 := keep (b1.out.trans (hb.mono b1.out.size))
  clear hb
  rw [HD.out]
  go_wp2_with fail
  refine (rat_any _ q ao nn c es r.files n _ (HM.out.below b2.out).box.c1 (HM.out.below b2.out).rows HM.out.few).mono ?_
  rintro e w3 ⟨he, hb⟩
  have b3 := keep (b2.out.trans (hb.mono b2.out.size))
  clear hb
  rw [HX.out] at he
  obtain rfl : e = .returned (.int .i64 (-1)) := by
    rcases he with ⟨_, h1⟩ | ⟨i, f, _, h1, _⟩
    · exact h1
    · cases h1
  clear he
  go_wp2
  go_ret
  exact ⟨rfl, b3.out⟩
set_option maxHeartbeats 1000000 in
set_option maxRecDepth 100000 in
theorem rrename_over_full (F : Nat → Prop) (q : Nat) (r : Disk) (n n2 nm : List UInt8) (sf : Nat) (fb : List UInt8) (nm2 : List UInt8) (sf2 : Nat) (fb2 : List UInt8) (w : World) (h : Ref F w q r) (hn : Dk.named n = true) (hn2 : Dk.named n2 = true) (hd : r.dark = false) (hx : Dk.look r.files n = some ⟨nm, sf, fb⟩) (hne : ¬ n2 = n) (hx2 : Dk.look r.files n2 = some ⟨nm2, sf2, fb2⟩) (hc : ((r.cap : Int) - (Dk.used r.files : Int)) < ((n2.length : Int) - (n.length : Int) - 16 - (n2.length : Int) - (fb2.length : Int))) :
    Calls Try.prog 33 #[.pointer (some ⟨q, 0, none⟩), .string ⟨n.toArray⟩, .string ⟨n2.toArray⟩] w fun e w' => e = .returned (.int .i64 4) ∧ Below w.heap.size w w' := by
  obtain ⟨ao, nn, c, es, h⟩ := h
  have HM := keep h
  clear h
  have HD := keep hd
  have HX := keep hx
  clear hd hx
  have hnl : n.length ≤ 100 := (named_true hn).2.1
  have hnl2 : n2.length ≤ 100 := (named_true hn2).2.1
  have HX2 := keep hx2
  have HNE := keep hne
  clear hx2 hne
  obtain ⟨FR, hF, F0, F1⟩ : ∃ FR : Int, (r.cap : Int) - (Dk.used r.files : Int) = FR ∧ 0 ≤ FR ∧ FR ≤ 1099511627776 := ⟨_, rfl, by have := HM.out.good.room; omega, by have := HM.out.capb; omega⟩
  rw [hF] at hc
  have HC := keep hc
  clear hc
  have HF := keep hF
  clear hF
  have hfb2 : fb2.length ≤ 1099511627776 := by
    have h1 := used_mem (Dk.look_some HX2.out).1
    have h2 := HM.out.good.room
    have h3 := HM.out.capb
    simp only [Dk.cost] at h1
    omega
  go_enter Try.func33, Try.ntmps33
  go_wp2_with fail
  refine (rnamed_any n _).mono ?_
  rintro e w0 ⟨rfl, hb⟩
  have b0 := keep hb
  clear hb
  rw [hn]
  go_wp2_with fail
  refine (rnamed_any n2 _).mono ?_
  rintro e w1 ⟨rfl, hb⟩
  have b1 := keep (b0.out.trans (hb.mono b0.out.size))
  clear hb
  rw [hn2]
  go_wp2_with fail
  refine (rright_any true q _ _ _ _ r.dark _ (HM.out.below b1.out).box).mono ?_
  rintro e w2 ⟨rfl, hb⟩
  have b2 := keep (b1.out.trans (hb.mono b1.out.size))
  clear hb
  rw [HD.out]
  go_wp2_with fail
  refine (rat_any _ q ao nn c es r.files n _ (HM.out.below b2.out).box.c1 (HM.out.below b2.out).rows HM.out.few).mono ?_
  rintro e w3 ⟨he, hb⟩
  have b3 := keep (b2.out.trans (hb.mono b2.out.size))
  clear hb
  rw [HX.out] at he
  obtain ⟨i, hi, rfl⟩ : ∃ i : Nat, r.files[i]? = some ⟨nm, sf, fb⟩ ∧ e = .returned (.int .i64 (i : Int)) := by
    rcases he with ⟨h1, _⟩ | ⟨i, f, h1, h2, h3⟩
    · cases h1
    · cases h2
      exact ⟨i, h1, h3⟩
  have HI := keep hi
  have i0 : (0 : Int) ≤ (i : Int) := by omega
  have i1 : i < nn := by
    have h1 := (List.getElem?_eq_some_iff.1 hi).1
    have h2 := HM.out.rows.len
    omega
  have i2 : (i : Int) < (nn : Int) := by omega
  clear he hi
  go_wp2_with fail
  refine (rat_any _ q ao nn c es r.files n2 _ (HM.out.below b3.out).box.c1 (HM.out.below b3.out).rows HM.out.few).mono ?_
  rintro e w4 ⟨he, hb⟩
  have b4 := keep (b3.out.trans (hb.mono b3.out.size))
  clear hb
  rw [HX2.out] at he
  obtain ⟨k2, hk2, rfl⟩ : ∃ k2 : Nat, r.files[k2]? = some ⟨nm2, sf2, fb2⟩ ∧ e = .returned (.int .i64 (k2 : Int)) := by
    rcases he with ⟨h1, _⟩ | ⟨i, f, h1, h2, h3⟩
    · cases h1
    · cases h2
      exact ⟨i, h1, h3⟩
  have z0 : (0 : Int) ≤ (k2 : Int) := by omega
  have z1 : k2 < nn := by
    have h1 := (List.getElem?_eq_some_iff.1 hk2).1
    have h2 := HM.out.rows.len
    omega
  have z2 : (k2 : Int) < (nn : Int) := by omega
  have z3 : ((k2 : Int) == (i : Int)) = false := by
    rw [beq_eq_false_iff_ne]
    intro e
    have e2 : k2 = i := by omega
    subst e2
    rw [HI.out] at hk2
    cases hk2
    exact HNE.out ((Dk.look_some HX2.out).2.symm.trans (Dk.look_some HX.out).2)
  obtain ⟨bb, off, hao, hbl, hat⟩ := (HM.out.below b4.out).rows.at_ (by omega)
  obtain ⟨p2, q2, _, _, _, hd2⟩ := hat k2 ⟨nm2, sf2, fb2⟩ hk2
  have cq := (HM.out.below b4.out).box.c1
  rw [hao] at cq
  have HAO := keep hao
  clear he hk2 hat hao
  go_wp2_with fail
  have hfr := rfree_any _ q r.cap ao nn c es r.files w4 (HM.out.below b4.out).box.c0 (HM.out.below b4.out).box.c1 (HM.out.below b4.out).rows HM.out.few HM.out.capb (by have h1 := HM.out.good.room; have h2 := HM.out.capb; omega)
  rw [HF.out] at hfr
  refine hfr.mono ?_
  rintro e w7 ⟨rfl, hb⟩
  have b7 := keep (b4.out.trans (hb.mono b4.out.size))
  have hcmp := HC.out
  clear hb hfr
  go_wp2
  go_ret
  exact ⟨rfl, b7.out⟩
set_option maxHeartbeats 1000000 in
set_option maxRecDepth 100000 in
theorem rrename_new_full (F : Nat → Prop) (q : Nat) (r : Disk) (n n2 nm : List UInt8) (sf : Nat) (fb : List UInt8) (w : World) (h : Ref F w q r) (hn : Dk.named n = true) (hn2 : Dk.named n2 = true) (hd : r.dark = false) (hx : Dk.look r.files n = some ⟨nm, sf, fb⟩) (hne : ¬ n2 = n) (hx2 : Dk.look r.files n2 = none) (hc : ((r.cap : Int) - (Dk.used r.files : Int)) < ((n2.length : Int) - (n.length : Int))) :
    Calls Try.prog 33 #[.pointer (some ⟨q, 0, none⟩), .string ⟨n.toArray⟩, .string ⟨n2.toArray⟩] w fun e w' => e = .returned (.int .i64 4) ∧ Below w.heap.size w w' := by
  obtain ⟨ao, nn, c, es, h⟩ := h
  have HM := keep h
  clear h
  have HD := keep hd
  have HX := keep hx
  clear hd hx
  have hnl : n.length ≤ 100 := (named_true hn).2.1
  have hnl2 : n2.length ≤ 100 := (named_true hn2).2.1
  have HX2 := keep hx2
  have HNE := keep hne
  clear hx2 hne
  obtain ⟨FR, hF, F0, F1⟩ : ∃ FR : Int, (r.cap : Int) - (Dk.used r.files : Int) = FR ∧ 0 ≤ FR ∧ FR ≤ 1099511627776 := ⟨_, rfl, by have := HM.out.good.room; omega, by have := HM.out.capb; omega⟩
  rw [hF] at hc
  have HC := keep hc
  clear hc
  have HF := keep hF
  clear hF
  go_enter Try.func33, Try.ntmps33
  go_wp2_with fail
  refine (rnamed_any n _).mono ?_
  rintro e w0 ⟨rfl, hb⟩
  have b0 := keep hb
  clear hb
  rw [hn]
  go_wp2_with fail
  refine (rnamed_any n2 _).mono ?_
  rintro e w1 ⟨rfl, hb⟩
  have b1 := keep (b0.out.trans (hb.mono b0.out.size))
  clear hb
  rw [hn2]
  go_wp2_with fail
  refine (rright_any true q _ _ _ _ r.dark _ (HM.out.below b1.out).box).mono ?_
  rintro e w2 ⟨rfl, hb⟩
  have b2 := keep (b1.out.trans (hb.mono b1.out.size))
  clear hb
  rw [HD.out]
  go_wp2_with fail
  refine (rat_any _ q ao nn c es r.files n _ (HM.out.below b2.out).box.c1 (HM.out.below b2.out).rows HM.out.few).mono ?_
  rintro e w3 ⟨he, hb⟩
  have b3 := keep (b2.out.trans (hb.mono b2.out.size))
  clear hb
  rw [HX.out] at he
  obtain ⟨i, hi, rfl⟩ : ∃ i : Nat, r.files[i]? = some ⟨nm, sf, fb⟩ ∧ e = .returned (.int .i64 (i : Int)) := by
    rcases he with ⟨h1, _⟩ | ⟨i, f, h1, h2, h3⟩
    · cases h1
    · cases h2
      exact ⟨i, h1, h3⟩
  have HI := keep hi
  have i0 : (0 : Int) ≤ (i : Int) := by omega
  have i1 : i < nn := by
    have h1 := (List.getElem?_eq_some_iff.1 hi).1
    have h2 := HM.out.rows.len
    omega
  have i2 : (i : Int) < (nn : Int) := by omega
  clear he hi
  go_wp2_with fail
  refine (rat_any _ q ao nn c es r.files n2 _ (HM.out.below b3.out).box.c1 (HM.out.below b3.out).rows HM.out.few).mono ?_
  rintro e w4 ⟨he, hb⟩
  have b4 := keep (b3.out.trans (hb.mono b3.out.size))
  clear hb
  rw [HX2.out] at he
  obtain rfl : e = .returned (.int .i64 (-1)) := by
    rcases he with ⟨_, h1⟩ | ⟨i, f, _, h1, _⟩
    · exact h1
    · cases h1
  clear he
  go_wp2_with fail
  have hfr := rfree_any _ q r.cap ao nn c es r.files w4 (HM.out.below b4.out).box.c0 (HM.out.below b4.out).box.c1 (HM.out.below b4.out).rows HM.out.few HM.out.capb (by have h1 := HM.out.good.room; have h2 := HM.out.capb; omega)
  rw [HF.out] at hfr
  refine hfr.mono ?_
  rintro e w7 ⟨rfl, hb⟩
  have b7 := keep (b4.out.trans (hb.mono b4.out.size))
  have hcmp := HC.out
  clear hb hfr
  go_wp2
  go_ret
  exact ⟨rfl, b7.out⟩
set_option maxHeartbeats 1000000 in
set_option maxRecDepth 100000 in
theorem rrename_over_cut (F : Nat → Prop) (q : Nat) (r : Disk) (n n2 nm : List UInt8) (sf : Nat) (fb : List UInt8) (nm2 : List UInt8) (sf2 : Nat) (fb2 : List UInt8) (w : World) (h : Ref F w q r) (hn : Dk.named n = true) (hn2 : Dk.named n2 = true) (hd : r.dark = false) (hx : Dk.look r.files n = some ⟨nm, sf, fb⟩) (hne : ¬ n2 = n) (hx2 : Dk.look r.files n2 = some ⟨nm2, sf2, fb2⟩) (hc : ¬ ((r.cap : Int) - (Dk.used r.files : Int)) < ((n2.length : Int) - (n.length : Int) - 16 - (n2.length : Int) - (fb2.length : Int))) (ho0 : r.done ≤ 4611686018427387904) (ht : (Dk.tick r).1 = false) :
    Calls Try.prog 33 #[.pointer (some ⟨q, 0, none⟩), .string ⟨n.toArray⟩, .string ⟨n2.toArray⟩] w fun e w' => RefPost F w q (5, (Dk.tick r).2) e w' := by
  obtain ⟨ao, nn, c, es, h⟩ := h
  have HM := keep h
  clear h
  have HD := keep hd
  have HX := keep hx
  clear hd hx
  have hnl : n.length ≤ 100 := (named_true hn).2.1
  have hnl2 : n2.length ≤ 100 := (named_true hn2).2.1
  have HX2 := keep hx2
  have HNE := keep hne
  clear hx2 hne
  obtain ⟨FR, hF, F0, F1⟩ : ∃ FR : Int, (r.cap : Int) - (Dk.used r.files : Int) = FR ∧ 0 ≤ FR ∧ FR ≤ 1099511627776 := ⟨_, rfl, by have := HM.out.good.room; omega, by have := HM.out.capb; omega⟩
  rw [hF] at hc
  have HC := keep hc
  clear hc
  have HF := keep hF
  clear hF
  have HT := keep ht
  clear ht
  have hfb2 : fb2.length ≤ 1099511627776 := by
    have h1 := used_mem (Dk.look_some HX2.out).1
    have h2 := HM.out.good.room
    have h3 := HM.out.capb
    simp only [Dk.cost] at h1
    omega
  go_enter Try.func33, Try.ntmps33
  go_wp2_with fail
  refine (rnamed_any n _).mono ?_
  rintro e w0 ⟨rfl, hb⟩
  have b0 := keep hb
  clear hb
  rw [hn]
  go_wp2_with fail
  refine (rnamed_any n2 _).mono ?_
  rintro e w1 ⟨rfl, hb⟩
  have b1 := keep (b0.out.trans (hb.mono b0.out.size))
  clear hb
  rw [hn2]
  go_wp2_with fail
  refine (rright_any true q _ _ _ _ r.dark _ (HM.out.below b1.out).box).mono ?_
  rintro e w2 ⟨rfl, hb⟩
  have b2 := keep (b1.out.trans (hb.mono b1.out.size))
  clear hb
  rw [HD.out]
  go_wp2_with fail
  refine (rat_any _ q ao nn c es r.files n _ (HM.out.below b2.out).box.c1 (HM.out.below b2.out).rows HM.out.few).mono ?_
  rintro e w3 ⟨he, hb⟩
  have b3 := keep (b2.out.trans (hb.mono b2.out.size))
  clear hb
  rw [HX.out] at he
  obtain ⟨i, hi, rfl⟩ : ∃ i : Nat, r.files[i]? = some ⟨nm, sf, fb⟩ ∧ e = .returned (.int .i64 (i : Int)) := by
    rcases he with ⟨h1, _⟩ | ⟨i, f, h1, h2, h3⟩
    · cases h1
    · cases h2
      exact ⟨i, h1, h3⟩
  have HI := keep hi
  have i0 : (0 : Int) ≤ (i : Int) := by omega
  have i1 : i < nn := by
    have h1 := (List.getElem?_eq_some_iff.1 hi).1
    have h2 := HM.out.rows.len
    omega
  have i2 : (i : Int) < (nn : Int) := by omega
  clear he hi
  go_wp2_with fail
  refine (rat_any _ q ao nn c es r.files n2 _ (HM.out.below b3.out).box.c1 (HM.out.below b3.out).rows HM.out.few).mono ?_
  rintro e w4 ⟨he, hb⟩
  have b4 := keep (b3.out.trans (hb.mono b3.out.size))
  clear hb
  rw [HX2.out] at he
  obtain ⟨k2, hk2, rfl⟩ : ∃ k2 : Nat, r.files[k2]? = some ⟨nm2, sf2, fb2⟩ ∧ e = .returned (.int .i64 (k2 : Int)) := by
    rcases he with ⟨h1, _⟩ | ⟨i, f, h1, h2, h3⟩
    · cases h1
    · cases h2
      exact ⟨i, h1, h3⟩
  have z0 : (0 : Int) ≤ (k2 : Int) := by omega
  have z1 : k2 < nn := by
    have h1 := (List.getElem?_eq_some_iff.1 hk2).1
    have h2 := HM.out.rows.len
    omega
  have z2 : (k2 : Int) < (nn : Int) := by omega
  have z3 : ((k2 : Int) == (i : Int)) = false := by
    rw [beq_eq_false_iff_ne]
    intro e
    have e2 : k2 = i := by omega
    subst e2
    rw [HI.out] at hk2
    cases hk2
    exact HNE.out ((Dk.look_some HX2.out).2.symm.trans (Dk.look_some HX.out).2)
  obtain ⟨bb, off, hao, hbl, hat⟩ := (HM.out.below b4.out).rows.at_ (by omega)
  obtain ⟨p2, q2, _, _, _, hd2⟩ := hat k2 ⟨nm2, sf2, fb2⟩ hk2
  have cq := (HM.out.below b4.out).box.c1
  rw [hao] at cq
  have HAO := keep hao
  clear he hk2 hat hao
  go_wp2_with fail
  have hfr := rfree_any _ q r.cap ao nn c es r.files w4 (HM.out.below b4.out).box.c0 (HM.out.below b4.out).box.c1 (HM.out.below b4.out).rows HM.out.few HM.out.capb (by have h1 := HM.out.good.room; have h2 := HM.out.capb; omega)
  rw [HF.out] at hfr
  refine hfr.mono ?_
  rintro e w7 ⟨rfl, hb⟩
  have b7 := keep (b4.out.trans (hb.mono b4.out.size))
  have hcmp := HC.out
  clear hb hfr
  go_wp2_with fail
  clear hcmp
  refine (rstep_ref F q ao nn c es r _ (HM.out.below b7.out) HD.out ho0).mono ?_
  rintro e w5 ⟨rfl, hr5, hk5⟩
  rw [HT.out]
  have R5 := keep hr5
  have K5 := keep ((Kept.of_below (U := At q) b7.out).trans hk5)
  clear hr5 hk5
  go_wp2
  go_ret
  exact ⟨rfl, ⟨_, _, _, _, R5.out⟩, K5.out⟩
set_option maxHeartbeats 1000000 in
set_option maxRecDepth 100000 in
theorem rrename_new_cut (F : Nat → Prop) (q : Nat) (r : Disk) (n n2 nm : List UInt8) (sf : Nat) (fb : List UInt8) (w : World) (h : Ref F w q r) (hn : Dk.named n = true) (hn2 : Dk.named n2 = true) (hd : r.dark = false) (hx : Dk.look r.files n = some ⟨nm, sf, fb⟩) (hne : ¬ n2 = n) (hx2 : Dk.look r.files n2 = none) (hc : ¬ ((r.cap : Int) - (Dk.used r.files : Int)) < ((n2.length : Int) - (n.length : Int))) (ho0 : r.done ≤ 4611686018427387904) (ht : (Dk.tick r).1 = false) :
    Calls Try.prog 33 #[.pointer (some ⟨q, 0, none⟩), .string ⟨n.toArray⟩, .string ⟨n2.toArray⟩] w fun e w' => RefPost F w q (5, (Dk.tick r).2) e w' := by
  obtain ⟨ao, nn, c, es, h⟩ := h
  have HM := keep h
  clear h
  have HD := keep hd
  have HX := keep hx
  clear hd hx
  have hnl : n.length ≤ 100 := (named_true hn).2.1
  have hnl2 : n2.length ≤ 100 := (named_true hn2).2.1
  have HX2 := keep hx2
  have HNE := keep hne
  clear hx2 hne
  obtain ⟨FR, hF, F0, F1⟩ : ∃ FR : Int, (r.cap : Int) - (Dk.used r.files : Int) = FR ∧ 0 ≤ FR ∧ FR ≤ 1099511627776 := ⟨_, rfl, by have := HM.out.good.room; omega, by have := HM.out.capb; omega⟩
  rw [hF] at hc
  have HC := keep hc
  clear hc
  have HF := keep hF
  clear hF
  have HT := keep ht
  clear ht
  go_enter Try.func33, Try.ntmps33
  go_wp2_with fail
  refine (rnamed_any n _).mono ?_
  rintro e w0 ⟨rfl, hb⟩
  have b0 := keep hb
  clear hb
  rw [hn]
  go_wp2_with fail
  refine (rnamed_any n2 _).mono ?_
  rintro e w1 ⟨rfl, hb⟩
  have b1 := keep (b0.out.trans (hb.mono b0.out.size))
  clear hb
  rw [hn2]
  go_wp2_with fail
  refine (rright_any true q _ _ _ _ r.dark _ (HM.out.below b1.out).box).mono ?_
  rintro e w2 ⟨rfl, hb⟩
  have b2 := keep (b1.out.trans (hb.mono b1.out.size))
  clear hb
  rw [HD.out]
  go_wp2_with fail
  refine (rat_any _ q ao nn c es r.files n _ (HM.out.below b2.out).box.c1 (HM.out.below b2.out).rows HM.out.few).mono ?_
  rintro e w3 ⟨he, hb⟩
  have b3 := keep (b2.out.trans (hb.mono b2.out.size))
  clear hb
  rw [HX.out] at he
  obtain ⟨i, hi, rfl⟩ : ∃ i : Nat, r.files[i]? = some ⟨nm, sf, fb⟩ ∧ e = .returned (.int .i64 (i : Int)) := by
    rcases he with ⟨h1, _⟩ | ⟨i, f, h1, h2, h3⟩
    · cases h1
    · cases h2
      exact ⟨i, h1, h3⟩
  have HI := keep hi
  have i0 : (0 : Int) ≤ (i : Int) := by omega
  have i1 : i < nn := by
    have h1 := (List.getElem?_eq_some_iff.1 hi).1
    have h2 := HM.out.rows.len
    omega
  have i2 : (i : Int) < (nn : Int) := by omega
  clear he hi
  go_wp2_with fail
  refine (rat_any _ q ao nn c es r.files n2 _ (HM.out.below b3.out).box.c1 (HM.out.below b3.out).rows HM.out.few).mono ?_
  rintro e w4 ⟨he, hb⟩
  have b4 := keep (b3.out.trans (hb.mono b3.out.size))
  clear hb
  rw [HX2.out] at he
  obtain rfl : e = .returned (.int .i64 (-1)) := by
    rcases he with ⟨_, h1⟩ | ⟨i, f, _, h1, _⟩
    · exact h1
    · cases h1
  clear he
  go_wp2_with fail
  have hfr := rfree_any _ q r.cap ao nn c es r.files w4 (HM.out.below b4.out).box.c0 (HM.out.below b4.out).box.c1 (HM.out.below b4.out).rows HM.out.few HM.out.capb (by have h1 := HM.out.good.room; have h2 := HM.out.capb; omega)
  rw [HF.out] at hfr
  refine hfr.mono ?_
  rintro e w7 ⟨rfl, hb⟩
  have b7 := keep (b4.out.trans (hb.mono b4.out.size))
  have hcmp := HC.out
  clear hb hfr
  go_wp2_with fail
  clear hcmp
  refine (rstep_ref F q ao nn c es r _ (HM.out.below b7.out) HD.out ho0).mono ?_
  rintro e w5 ⟨rfl, hr5, hk5⟩
  rw [HT.out]
  have R5 := keep hr5
  have K5 := keep ((Kept.of_below (U := At q) b7.out).trans hk5)
  clear hr5 hk5
  go_wp2
  go_ret
  exact ⟨rfl, ⟨_, _, _, _, R5.out⟩, K5.out⟩
set_option maxHeartbeats 1000000 in
set_option maxRecDepth 100000 in
theorem rrename_same_cut (F : Nat → Prop) (q : Nat) (r : Disk) (n nm : List UInt8) (sf : Nat) (fb : List UInt8) (w : World) (h : Ref F w q r) (hn : Dk.named n = true) (hd : r.dark = false) (hx : Dk.look r.files n = some ⟨nm, sf, fb⟩) (ho0 : r.done ≤ 4611686018427387904) (ht : (Dk.tick r).1 = false) :
    Calls Try.prog 33 #[.pointer (some ⟨q, 0, none⟩), .string ⟨n.toArray⟩, .string ⟨n.toArray⟩] w fun e w' => RefPost F w q (5, (Dk.tick r).2) e w' := by
  obtain ⟨ao, nn, c, es, h⟩ := h
  have HM := keep h
  clear h
  have HD := keep hd
  have HX := keep hx
  clear hd hx
  have hnl : n.length ≤ 100 := (named_true hn).2.1
  obtain ⟨FR, hF, F0, F1⟩ : ∃ FR : Int, (r.cap : Int) - (Dk.used r.files : Int) = FR ∧ 0 ≤ FR ∧ FR ≤ 1099511627776 := ⟨_, rfl, by have := HM.out.good.room; omega, by have := HM.out.capb; omega⟩
  have HF := keep hF
  clear hF
  have HT := keep ht
  clear ht
  go_enter Try.func33, Try.ntmps33
  go_wp2_with fail
  refine (rnamed_any n _).mono ?_
  rintro e w0 ⟨rfl, hb⟩
  have b0 := keep hb
  clear hb
  rw [hn]
  go_wp2_with fail
  refine (rnamed_any n _).mono ?_
  rintro e w1 ⟨rfl, hb⟩
  have b1 := keep (b0.out.trans (hb.mono b0.out.size))
  clear hb
  rw [hn]
  go_wp2_with fail
  refine (rright_any true q _ _ _ _ r.dark _ (HM.out.below b1.out).box).mono ?_
  rintro e w2 ⟨rfl, hb⟩
  have b2 := keep (b1.out.trans (hb.mono b1.out.size))
  clear hb
  rw [HD.out]
  go_wp2_with fail
  refine (rat_any _ q ao nn c es r.files n _ (HM.out.below b2.out).box.c1 (HM.out.below b2.out).rows HM.out.few).mono ?_
  rintro e w3 ⟨he, hb⟩
  have b3 := keep (b2.out.trans (hb.mono b2.out.size))
  clear hb
  rw [HX.out] at he
  obtain ⟨i, hi, rfl⟩ : ∃ i : Nat, r.files[i]? = some ⟨nm, sf, fb⟩ ∧ e = .returned (.int .i64 (i : Int)) := by
    rcases he with ⟨h1, _⟩ | ⟨i, f, h1, h2, h3⟩
    · cases h1
    · cases h2
      exact ⟨i, h1, h3⟩
  have HI := keep hi
  have i0 : (0 : Int) ≤ (i : Int) := by omega
  have i1 : i < nn := by
    have h1 := (List.getElem?_eq_some_iff.1 hi).1
    have h2 := HM.out.rows.len
    omega
  have i2 : (i : Int) < (nn : Int) := by omega
  clear he hi
  go_wp2_with fail
  refine (rat_any _ q ao nn c es r.files n _ (HM.out.below b3.out).box.c1 (HM.out.below b3.out).rows HM.out.few).mono ?_
  rintro e w4 ⟨he, hb⟩
  have b4 := keep (b3.out.trans (hb.mono b3.out.size))
  clear hb
  rw [HX.out] at he
  obtain rfl : e = .returned (.int .i64 (i : Int)) := by
    rcases he with ⟨h1, _⟩ | ⟨k, f, h1, h2, h3⟩
    · cases h1
    · cases h2
      rw [h3, rising_inj HM.out.good.rising h1 HI.out]
  clear he
  go_wp2_with fail
  have hfr := rfree_any _ q r.cap ao nn c es r.files w4 (HM.out.below b4.out).box.c0 (HM.out.below b4.out).box.c1 (HM.out.below b4.out).rows HM.out.few HM.out.capb (by have h1 := HM.out.good.room; have h2 := HM.out.capb; omega)
  rw [HF.out] at hfr
  refine hfr.mono ?_
  rintro e w7 ⟨rfl, hb⟩
  have b7 := keep (b4.out.trans (hb.mono b4.out.size))
  have hcmp : ¬ FR < 0 := by omega
  clear hb hfr
  go_wp2_with fail
  clear hcmp
  refine (rstep_ref F q ao nn c es r _ (HM.out.below b7.out) HD.out ho0).mono ?_
  rintro e w5 ⟨rfl, hr5, hk5⟩
  rw [HT.out]
  have R5 := keep hr5
  have K5 := keep ((Kept.of_below (U := At q) b7.out).trans hk5)
  clear hr5 hk5
  go_wp2
  go_ret
  exact ⟨rfl, ⟨_, _, _, _, R5.out⟩, K5.out⟩
end Go.Proofs.Ytfjhfecjbheipaa
namespace Go.Proofs.Ytfjhfecjbheipaa
open Go.RowKit
open Dk (File Disk)

set_option maxHeartbeats 1000000 in
set_option maxRecDepth 100000 in
theorem rrename_over_go (F : Nat → Prop) (q : Nat) (r : Disk) (n n2 nm : List UInt8) (sf : Nat) (fb : List UInt8) (nm2 : List UInt8) (sf2 : Nat) (fb2 : List UInt8) (w : World) (h : Ref F w q r) (hn : Dk.named n = true) (hn2 : Dk.named n2 = true) (hd : r.dark = false) (hx : Dk.look r.files n = some ⟨nm, sf, fb⟩) (hne : ¬ n2 = n) (hx2 : Dk.look r.files n2 = some ⟨nm2, sf2, fb2⟩) (hc : ¬ ((r.cap : Int) - (Dk.used r.files : Int)) < ((n2.length : Int) - (n.length : Int) - 16 - (n2.length : Int) - (fb2.length : Int))) (ho0 : r.done ≤ 4611686018427387904) (ht : (Dk.tick r).1 = true) :
    Calls Try.prog 33 #[.pointer (some ⟨q, 0, none⟩), .string ⟨n.toArray⟩, .string ⟨n2.toArray⟩] w fun e w' => RefPost F w q (0, { (Dk.tick r).2 with files := Dk.put (Dk.drop r.files n) ⟨n2, sf, fb⟩ }) e w' := by
  obtain ⟨ao, nn, c, es, h⟩ := h
  have HM := keep h
  clear h
  have HD := keep hd
  have HX := keep hx
  clear hd hx
  have hnl : n.length ≤ 100 := (named_true hn).2.1
  have hnl2 : n2.length ≤ 100 := (named_true hn2).2.1
  have HX2 := keep hx2
  have HNE := keep hne
  clear hx2 hne
  obtain ⟨FR, hF, F0, F1⟩ : ∃ FR : Int, (r.cap : Int) - (Dk.used r.files : Int) = FR ∧ 0 ≤ FR ∧ FR ≤ 1099511627776 := ⟨_, rfl, by have := HM.out.good.room; omega, by have := HM.out.capb; omega⟩
  rw [hF] at hc
  have HC := keep hc
  clear hc
  have HF := keep hF
  clear hF
  have HT := keep ht
  clear ht
  have hfb2 : fb2.length ≤ 1099511627776 := by
    have h1 := used_mem (Dk.look_some HX2.out).1
    have h2 := HM.out.good.room
    have h3 := HM.out.capb
    simp only [Dk.cost] at h1
    omega
  go_enter Try.func33, Try.ntmps33
  go_wp2_with fail
  refine (rnamed_any n _).mono ?_
  rintro e w0 ⟨rfl, hb⟩
  have b0 := keep hb
  clear hb
  rw [hn]
  go_wp2_with fail
  refine (rnamed_any n2 _).mono ?_
  rintro e w1 ⟨rfl, hb⟩
  have b1 := keep (b0.out.trans (hb.mono b0.out.size))
  clear hb
  rw [hn2]
  go_wp2_with fail
  refine (rright_any true q _ _ _ _ r.dark _ (HM.out.below b1.out).box).mono ?_
  rintro e w2 ⟨rfl, hb⟩
  have b2 := keep (b1.out.trans (hb.mono b1.out.size))
  clear hb
  rw [HD.out]
  go_wp2_with fail
  refine (rat_any _ q ao nn c es r.files n _ (HM.out.below b2.out).box.c1 (HM.out.below b2.out).rows HM.out.few).mono ?_
  rintro e w3 ⟨he, hb⟩
  have b3 := keep (b2.out.trans (hb.mono b2.out.size))
  clear hb
  rw [HX.out] at he
  obtain ⟨i, hi, rfl⟩ : ∃ i : Nat, r.files[i]? = some ⟨nm, sf, fb⟩ ∧ e = .returned (.int .i64 (i : Int)) := by
    rcases he with ⟨h1, _⟩ | ⟨i, f, h1, h2, h3⟩
    · cases h1
    · cases h2
      exact ⟨i, h1, h3⟩
  have HI := keep hi
  have i0 : (0 : Int) ≤ (i : Int) := by omega
  have i1 : i < nn := by
    have h1 := (List.getElem?_eq_some_iff.1 hi).1
    have h2 := HM.out.rows.len
    omega
  have i2 : (i : Int) < (nn : Int) := by omega
  clear he hi
  go_wp2_with fail
  refine (rat_any _ q ao nn c es r.files n2 _ (HM.out.below b3.out).box.c1 (HM.out.below b3.out).rows HM.out.few).mono ?_
  rintro e w4 ⟨he, hb⟩
  have b4 := keep (b3.out.trans (hb.mono b3.out.size))
  clear hb
  rw [HX2.out] at he
  obtain ⟨k2, hk2, rfl⟩ : ∃ k2 : Nat, r.files[k2]? = some ⟨nm2, sf2, fb2⟩ ∧ e = .returned (.int .i64 (k2 : Int)) := by
    rcases he with ⟨h1, _⟩ | ⟨i, f, h1, h2, h3⟩
    · cases h1
    · cases h2
      exact ⟨i, h1, h3⟩
  have z0 : (0 : Int) ≤ (k2 : Int) := by omega
  have z1 : k2 < nn := by
    have h1 := (List.getElem?_eq_some_iff.1 hk2).1
    have h2 := HM.out.rows.len
    omega
  have z2 : (k2 : Int) < (nn : Int) := by omega
  have z3 : ((k2 : Int) == (i : Int)) = false := by
    rw [beq_eq_false_iff_ne]
    intro e
    have e2 : k2 = i := by omega
    subst e2
    rw [HI.out] at hk2
    cases hk2
    exact HNE.out ((Dk.look_some HX2.out).2.symm.trans (Dk.look_some HX.out).2)
  obtain ⟨bb, off, hao, hbl, hat⟩ := (HM.out.below b4.out).rows.at_ (by omega)
  obtain ⟨p2, q2, _, _, _, hd2⟩ := hat k2 ⟨nm2, sf2, fb2⟩ hk2
  have cq := (HM.out.below b4.out).box.c1
  rw [hao] at cq
  have HAO := keep hao
  clear he hk2 hat hao
  go_wp2_with fail
  have hfr := rfree_any _ q r.cap ao nn c es r.files w4 (HM.out.below b4.out).box.c0 (HM.out.below b4.out).box.c1 (HM.out.below b4.out).rows HM.out.few HM.out.capb (by have h1 := HM.out.good.room; have h2 := HM.out.capb; omega)
  rw [HF.out] at hfr
  refine hfr.mono ?_
  rintro e w7 ⟨rfl, hb⟩
  have b7 := keep (b4.out.trans (hb.mono b4.out.size))
  have hcmp := HC.out
  clear hb hfr
  go_wp2_with fail
  clear hcmp
  refine (rstep_ref F q ao nn c es r _ (HM.out.below b7.out) HD.out ho0).mono ?_
  rintro e w5 ⟨rfl, hr5, hk5⟩
  rw [HT.out]
  have R5 := keep hr5
  have K5 := keep ((Kept.of_below (U := At q) b7.out).trans hk5)
  clear hr5 hk5
  obtain ⟨bb5, off5, hao5, hbl5, hat5⟩ := R5.out.rows.at_ (by omega)
  obtain ⟨p, k, hek, hc0, hc1, hc2⟩ := hat5 i ⟨nm, sf, fb⟩ (by rw [(Dk.tick_files r).1]; exact HI.out)
  have hhe := keep (R5.out.rows.held (List.mem_of_getElem? hek))
  have cq := R5.out.box.c1
  rw [hao5] at cq
  have BL := keep ((Below.refl w5.heap.size w5).alloc (Nat.le_refl _) (.cells #[.string ⟨nm.toArray⟩, .int .i64 (sf : Int), .slice p fb.length k] 71))
  have gL := keep (heap_alloc_new w5 (.cells #[.string ⟨nm.toArray⟩, .int .i64 (sf : Int), .slice p fb.length k] 71))
  have R6 := keep (R5.out.below BL.out)
  have hUq : Hid (∀ g, (beside F q g ∨ g = w5.heap.size) → g < (w5.alloc (.cells #[.string ⟨nm.toArray⟩, .int .i64 (sf : Int), .slice p fb.length k] 71)).heap.size) := fun g hg => by
    rcases hg with hg | hg
    · exact R6.out.inside g hg
    · rw [hg]; simp
  have rows6 : Hid (Rows4 (fun g => beside F q g ∨ g = w5.heap.size) (w5.alloc (.cells #[.string ⟨nm.toArray⟩, .int .i64 (sf : Int), .slice p fb.length k] 71)) ao nn c es (Dk.tick r).2.files) := ⟨R5.out.rows.rows.next' (Kept.of_below BL.out) (fun g hg e => by
    rcases e with e | e
    · exact e
    · omega), R5.out.rows.same, R5.out.rows.len⟩
  have hL5 : q ≠ w5.heap.size := fun e => by have := R5.out.box.lt; omega
  clear hat5 hek hao5
  go_wp2_with fail
  refine (rdrop_any (fun g => beside F q g ∨ g = w5.heap.size) q _ ao nn c es _ _ _ _ n _ R6.out.box rows6.out R6.out.few (.inl (.inr rfl)) hUq.out).mono ?_
  rintro e w6' ⟨rfl, ⟨ao', c', es', hb6, hr6⟩, hk6⟩
  rw [(Dk.tick_files r).1] at hb6 hr6
  have g6 := keep ((hk6.block w5.heap.size (by simp) (fun e => hL5 (show w5.heap.size = q from e).symm)).trans gL.out)
  have K6 := keep ((K5.out.trans (Kept.of_below BL.out)).trans hk6)
  have HB6 := keep hb6
  have HR6 := keep hr6
  have SZ6 := keep hk6.size
  have n0 := (cell_of_row _ _ _ _ _ _ g6.out : w6'.cell? ⟨w5.heap.size, 0, none⟩ = some (.string ⟨nm.toArray⟩))
  have n1 := (cell_of_row _ _ _ _ _ _ g6.out : w6'.cell? ⟨w5.heap.size, 1, none⟩ = some (.int .i64 (sf : Int)))
  have n2' := (cell_of_row _ _ _ _ _ _ g6.out : w6'.cell? ⟨w5.heap.size, 2, none⟩ = some (.slice p fb.length k))
  have fz : ∀ j, w6'.frozen? ⟨w5.heap.size, j, none⟩ = false := fun j => by have := g6.out; simp [World.frozen?, this]
  obtain ⟨W7, hW7⟩ : ∃ W7, w6'.setCell ⟨w5.heap.size, 0, none⟩ (.string ⟨n2.toArray⟩) = W7 := ⟨_, rfl⟩
  have g7 : W7.heap[w5.heap.size]? = some (.cells #[.string ⟨n2.toArray⟩, .int .i64 (sf : Int), .slice p fb.length k] 71 (0, 0)) := by rw [← hW7]; exact set_row g6.out 0 _
  have o0 := (cell_of_row _ _ _ _ _ _ g7 : W7.cell? ⟨w5.heap.size, 0, none⟩ = some (.string ⟨n2.toArray⟩))
  have o1 := (cell_of_row _ _ _ _ _ _ g7 : W7.cell? ⟨w5.heap.size, 1, none⟩ = some (.int .i64 (sf : Int)))
  have o2 := (cell_of_row _ _ _ _ _ _ g7 : W7.cell? ⟨w5.heap.size, 2, none⟩ = some (.slice p fb.length k))
  clear g7
  have K7 := keep (show Kept (At q) w W7 by rw [← hW7]; exact K6.out.setCell (p := ⟨w5.heap.size, 0, none⟩) (.inr K5.out.size) _)
  have rb7 := keep (show RBox W7 q _ _ _ _ _ by rw [← hW7]; exact HB6.out.same (Below.heap_setCell w6' ⟨w5.heap.size, 0, none⟩ _ q hL5))
  have rw7 : Hid (Rows4 (beside F q) W7 ao' (Dk.drop r.files n).length c' es' (Dk.drop r.files n)) := by
    have h1 := HR6.out.next (w' := W7) (by rw [← hW7]; exact (Kept.refl _ _).setCell (p := ⟨w5.heap.size, 0, none⟩) (.inl (.inr rfl)) _)
    exact ⟨fun w8 hk8 => h1.rows w8 (hk8.wide (fun g _ e => .inl e)), h1.same, h1.len⟩
  have st7 := keep (hhe.out.next (w' := W7) (by
    rw [← hW7]
    exact (((Kept.of_below BL.out).trans (hk6.wide (fun g _ e => .inr e))).setCell (p := ⟨w5.heap.size, 0, none⟩) (.inr (Nat.le_refl _)) _)))
  have in7 : Hid (∀ g, beside F q g → g < W7.heap.size) := fun g hg => Nat.lt_of_lt_of_le (HM.out.inside g hg) K7.out.size
  have few7 : Hid ((Dk.drop r.files n).length ≤ 1099511627776) := by
    have h1 := Dk.drop_length r.files n
    have h2 := HM.out.few
    have h3 := HM.out.rows.len
    show _ ≤ _
    omega
  clear hb6 hr6 hk6 cq hc0 hc1 hc2
  go_wp2_with fail
  clear hW7 n0 n1 n2' fz o0 o1 o2
  refine (rput_any (beside F q) q _ ao' _ c' es' _ _ _ _ n2 sf p k fb _ rb7.out rw7.out few7.out (.inr rfl) in7.out (Dk.drop_rising _ HM.out.good.rising) st7.out).mono ?_
  rintro e w9 ⟨rfl, ⟨ao9, c9, es9, hb9, hr9⟩, hk9⟩
  have hgood : Dk.Good { (Dk.tick r).2 with files := Dk.put (Dk.drop r.files n) ⟨n2, sf, fb⟩ } := by
    have h1 := Dk.raw_good 2 n n2 [] HM.out.good
    have hF2 := HF.out
    have hC := HC.out
    rw [Dk.raw_do (by show (Dk.named n && Dk.named n2) = true; rw [hn, hn2]; rfl) HD.out (Dk.rename_room (t := []) HX.out (by rw [Dk.wants_over HX2.out HNE.out]; omega)), Dk.write_go HT.out] at h1
    exact h1
  have K9 := keep (K7.out.trans hk9)
  have FIN : Hid (RefAt F w9 q ao9 (Dk.put (Dk.drop r.files n) ⟨n2, sf, fb⟩).length c9 es9 { (Dk.tick r).2 with files := Dk.put (Dk.drop r.files n) ⟨n2, sf, fb⟩ }) := ⟨hb9, hr9, hgood, R5.out.capb, R5.out.out, fun g hg => Nat.lt_of_lt_of_le (HM.out.lt g hg) K9.out.size, R5.out.leftb⟩
  clear hb9 hr9 hk9 hgood
  go_wp2
  go_ret
  exact ⟨rfl, ⟨_, _, _, _, FIN.out⟩, K9.out⟩
set_option maxHeartbeats 1000000 in
set_option maxRecDepth 100000 in
theorem rrename_new_go (F : Nat → Prop) (q : Nat) (r : Disk) (n n2 nm : List UInt8) (sf : Nat) (fb : List UInt8) (w : World) (h : Ref F w q r) (hn : Dk.named n = true) (hn2 : Dk.named n2 = true) (hd : r.dark = false) (hx : Dk.look r.files n = some ⟨nm, sf, fb⟩) (hne : ¬ n2 = n) (hx2 : Dk.look r.files n2 = none) (hc : ¬ ((r.cap : Int) - (Dk.used r.files : Int)) < ((n2.length : Int) - (n.length : Int))) (ho0 : r.done ≤ 4611686018427387904) (ht : (Dk.tick r).1 = true) :
    Calls Try.prog 33 #[.pointer (some ⟨q, 0, none⟩), .string ⟨n.toArray⟩, .string ⟨n2.toArray⟩] w fun e w' => RefPost F w q (0, { (Dk.tick r).2 with files := Dk.put (Dk.drop r.files n) ⟨n2, sf, fb⟩ }) e w' := by
  obtain ⟨ao, nn, c, es, h⟩ := h
  have HM := keep h
  clear h
  have HD := keep hd
  have HX := keep hx
  clear hd hx
  have hnl : n.length ≤ 100 := (named_true hn).2.1
  have hnl2 : n2.length ≤ 100 := (named_true hn2).2.1
  have HX2 := keep hx2
  have HNE := keep hne
  clear hx2 hne
  obtain ⟨FR, hF, F0, F1⟩ : ∃ FR : Int, (r.cap : Int) - (Dk.used r.files : Int) = FR ∧ 0 ≤ FR ∧ FR ≤ 1099511627776 := ⟨_, rfl, by have := HM.out.good.room; omega, by have := HM.out.capb; omega⟩
  rw [hF] at hc
  have HC := keep hc
  clear hc
  have HF := keep hF
  clear hF
  have HT := keep ht
  clear ht
  go_enter Try.func33, Try.ntmps33
  go_wp2_with fail
  refine (rnamed_any n _).mono ?_
  rintro e w0 ⟨rfl, hb⟩
  have b0 := keep hb
  clear hb
  rw [hn]
  go_wp2_with fail
  refine (rnamed_any n2 _).mono ?_
  rintro e w1 ⟨rfl, hb⟩
  have b1 := keep (b0.out.trans (hb.mono b0.out.size))
  clear hb
  rw [hn2]
  go_wp2_with fail
  refine (rright_any true q _ _ _ _ r.dark _ (HM.out.below b1.out).box).mono ?_
  rintro e w2 ⟨rfl, hb⟩
  have b2 := keep (b1.out.trans (hb.mono b1.out.size))
  clear hb
  rw [HD.out]
  go_wp2_with fail
  refine (rat_any _ q ao nn c es r.files n _ (HM.out.below b2.out).box.c1 (HM.out.below b2.out).rows HM.out.few).mono ?_
  rintro e w3 ⟨he, hb⟩
  have b3 := keep (b2.out.trans (hb.mono b2.out.size))
  clear hb
  rw [HX.out] at he
  obtain ⟨i, hi, rfl⟩ : ∃ i : Nat, r.files[i]? = some ⟨nm, sf, fb⟩ ∧ e = .returned (.int .i64 (i : Int)) := by
    rcases he with ⟨h1, _⟩ | ⟨i, f, h1, h2, h3⟩
    · cases h1
    · cases h2
      exact ⟨i, h1, h3⟩
  have HI := keep hi
  have i0 : (0 : Int) ≤ (i : Int) := by omega
  have i1 : i < nn := by
    have h1 := (List.getElem?_eq_some_iff.1 hi).1
    have h2 := HM.out.rows.len
    omega
  have i2 : (i : Int) < (nn : Int) := by omega
  clear he hi
  go_wp2_with fail
  refine (rat_any _ q ao nn c es r.files n2 _ (HM.out.below b3.out).box.c1 (HM.out.below b3.out).rows HM.out.few).mono ?_
  rintro e w4 ⟨he, hb⟩
  have b4 := keep (b3.out.trans (hb.mono b3.out.size))
  clear hb
  rw [HX2.out] at he
  obtain rfl : e = .returned (.int .i64 (-1)) := by
    rcases he with ⟨_, h1⟩ | ⟨i, f, _, h1, _⟩
    · exact h1
    · cases h1
  clear he
  go_wp2_with fail
  have hfr := rfree_any _ q r.cap ao nn c es r.files w4 (HM.out.below b4.out).box.c0 (HM.out.below b4.out).box.c1 (HM.out.below b4.out).rows HM.out.few HM.out.capb (by have h1 := HM.out.good.room; have h2 := HM.out.capb; omega)
  rw [HF.out] at hfr
  refine hfr.mono ?_
  rintro e w7 ⟨rfl, hb⟩
  have b7 := keep (b4.out.trans (hb.mono b4.out.size))
  have hcmp := HC.out
  clear hb hfr
  go_wp2_with fail
  clear hcmp
  refine (rstep_ref F q ao nn c es r _ (HM.out.below b7.out) HD.out ho0).mono ?_
  rintro e w5 ⟨rfl, hr5, hk5⟩
  rw [HT.out]
  have R5 := keep hr5
  have K5 := keep ((Kept.of_below (U := At q) b7.out).trans hk5)
  clear hr5 hk5
  obtain ⟨bb5, off5, hao5, hbl5, hat5⟩ := R5.out.rows.at_ (by omega)
  obtain ⟨p, k, hek, hc0, hc1, hc2⟩ := hat5 i ⟨nm, sf, fb⟩ (by rw [(Dk.tick_files r).1]; exact HI.out)
  have hhe := keep (R5.out.rows.held (List.mem_of_getElem? hek))
  have cq := R5.out.box.c1
  rw [hao5] at cq
  have BL := keep ((Below.refl w5.heap.size w5).alloc (Nat.le_refl _) (.cells #[.string ⟨nm.toArray⟩, .int .i64 (sf : Int), .slice p fb.length k] 71))
  have gL := keep (heap_alloc_new w5 (.cells #[.string ⟨nm.toArray⟩, .int .i64 (sf : Int), .slice p fb.length k] 71))
  have R6 := keep (R5.out.below BL.out)
  have hUq : Hid (∀ g, (beside F q g ∨ g = w5.heap.size) → g < (w5.alloc (.cells #[.string ⟨nm.toArray⟩, .int .i64 (sf : Int), .slice p fb.length k] 71)).heap.size) := fun g hg => by
    rcases hg with hg | hg
    · exact R6.out.inside g hg
    · rw [hg]; simp
  have rows6 : Hid (Rows4 (fun g => beside F q g ∨ g = w5.heap.size) (w5.alloc (.cells #[.string ⟨nm.toArray⟩, .int .i64 (sf : Int), .slice p fb.length k] 71)) ao nn c es (Dk.tick r).2.files) := ⟨R5.out.rows.rows.next' (Kept.of_below BL.out) (fun g hg e => by
    rcases e with e | e
    · exact e
    · omega), R5.out.rows.same, R5.out.rows.len⟩
  have hL5 : q ≠ w5.heap.size := fun e => by have := R5.out.box.lt; omega
  clear hat5 hek hao5
  go_wp2_with fail
  refine (rdrop_any (fun g => beside F q g ∨ g = w5.heap.size) q _ ao nn c es _ _ _ _ n _ R6.out.box rows6.out R6.out.few (.inl (.inr rfl)) hUq.out).mono ?_
  rintro e w6' ⟨rfl, ⟨ao', c', es', hb6, hr6⟩, hk6⟩
  rw [(Dk.tick_files r).1] at hb6 hr6
  have g6 := keep ((hk6.block w5.heap.size (by simp) (fun e => hL5 (show w5.heap.size = q from e).symm)).trans gL.out)
  have K6 := keep ((K5.out.trans (Kept.of_below BL.out)).trans hk6)
  have HB6 := keep hb6
  have HR6 := keep hr6
  have SZ6 := keep hk6.size
  have n0 := (cell_of_row _ _ _ _ _ _ g6.out : w6'.cell? ⟨w5.heap.size, 0, none⟩ = some (.string ⟨nm.toArray⟩))
  have n1 := (cell_of_row _ _ _ _ _ _ g6.out : w6'.cell? ⟨w5.heap.size, 1, none⟩ = some (.int .i64 (sf : Int)))
  have n2' := (cell_of_row _ _ _ _ _ _ g6.out : w6'.cell? ⟨w5.heap.size, 2, none⟩ = some (.slice p fb.length k))
  have fz : ∀ j, w6'.frozen? ⟨w5.heap.size, j, none⟩ = false := fun j => by have := g6.out; simp [World.frozen?, this]
  obtain ⟨W7, hW7⟩ : ∃ W7, w6'.setCell ⟨w5.heap.size, 0, none⟩ (.string ⟨n2.toArray⟩) = W7 := ⟨_, rfl⟩
  have g7 : W7.heap[w5.heap.size]? = some (.cells #[.string ⟨n2.toArray⟩, .int .i64 (sf : Int), .slice p fb.length k] 71 (0, 0)) := by rw [← hW7]; exact set_row g6.out 0 _
  have o0 := (cell_of_row _ _ _ _ _ _ g7 : W7.cell? ⟨w5.heap.size, 0, none⟩ = some (.string ⟨n2.toArray⟩))
  have o1 := (cell_of_row _ _ _ _ _ _ g7 : W7.cell? ⟨w5.heap.size, 1, none⟩ = some (.int .i64 (sf : Int)))
  have o2 := (cell_of_row _ _ _ _ _ _ g7 : W7.cell? ⟨w5.heap.size, 2, none⟩ = some (.slice p fb.length k))
  clear g7
  have K7 := keep (show Kept (At q) w W7 by rw [← hW7]; exact K6.out.setCell (p := ⟨w5.heap.size, 0, none⟩) (.inr K5.out.size) _)
  have rb7 := keep (show RBox W7 q _ _ _ _ _ by rw [← hW7]; exact HB6.out.same (Below.heap_setCell w6' ⟨w5.heap.size, 0, none⟩ _ q hL5))
  have rw7 : Hid (Rows4 (beside F q) W7 ao' (Dk.drop r.files n).length c' es' (Dk.drop r.files n)) := by
    have h1 := HR6.out.next (w' := W7) (by rw [← hW7]; exact (Kept.refl _ _).setCell (p := ⟨w5.heap.size, 0, none⟩) (.inl (.inr rfl)) _)
    exact ⟨fun w8 hk8 => h1.rows w8 (hk8.wide (fun g _ e => .inl e)), h1.same, h1.len⟩
  have st7 := keep (hhe.out.next (w' := W7) (by
    rw [← hW7]
    exact (((Kept.of_below BL.out).trans (hk6.wide (fun g _ e => .inr e))).setCell (p := ⟨w5.heap.size, 0, none⟩) (.inr (Nat.le_refl _)) _)))
  have in7 : Hid (∀ g, beside F q g → g < W7.heap.size) := fun g hg => Nat.lt_of_lt_of_le (HM.out.inside g hg) K7.out.size
  have few7 : Hid ((Dk.drop r.files n).length ≤ 1099511627776) := by
    have h1 := Dk.drop_length r.files n
    have h2 := HM.out.few
    have h3 := HM.out.rows.len
    show _ ≤ _
    omega
  clear hb6 hr6 hk6 cq hc0 hc1 hc2
  go_wp2_with fail
  clear hW7 n0 n1 n2' fz o0 o1 o2
  refine (rput_any (beside F q) q _ ao' _ c' es' _ _ _ _ n2 sf p k fb _ rb7.out rw7.out few7.out (.inr rfl) in7.out (Dk.drop_rising _ HM.out.good.rising) st7.out).mono ?_
  rintro e w9 ⟨rfl, ⟨ao9, c9, es9, hb9, hr9⟩, hk9⟩
  have hgood : Dk.Good { (Dk.tick r).2 with files := Dk.put (Dk.drop r.files n) ⟨n2, sf, fb⟩ } := by
    have h1 := Dk.raw_good 2 n n2 [] HM.out.good
    have hF2 := HF.out
    have hC := HC.out
    rw [Dk.raw_do (by show (Dk.named n && Dk.named n2) = true; rw [hn, hn2]; rfl) HD.out (Dk.rename_room (t := []) HX.out (by rw [Dk.wants_new HX2.out]; omega)), Dk.write_go HT.out] at h1
    exact h1
  have K9 := keep (K7.out.trans hk9)
  have FIN : Hid (RefAt F w9 q ao9 (Dk.put (Dk.drop r.files n) ⟨n2, sf, fb⟩).length c9 es9 { (Dk.tick r).2 with files := Dk.put (Dk.drop r.files n) ⟨n2, sf, fb⟩ }) := ⟨hb9, hr9, hgood, R5.out.capb, R5.out.out, fun g hg => Nat.lt_of_lt_of_le (HM.out.lt g hg) K9.out.size, R5.out.leftb⟩
  clear hb9 hr9 hk9 hgood
  go_wp2
  go_ret
  exact ⟨rfl, ⟨_, _, _, _, FIN.out⟩, K9.out⟩
set_option maxHeartbeats 1000000 in
set_option maxRecDepth 100000 in
theorem rrename_same_go (F : Nat → Prop) (q : Nat) (r : Disk) (n nm : List UInt8) (sf : Nat) (fb : List UInt8) (w : World) (h : Ref F w q r) (hn : Dk.named n = true) (hd : r.dark = false) (hx : Dk.look r.files n = some ⟨nm, sf, fb⟩) (ho0 : r.done ≤ 4611686018427387904) (ht : (Dk.tick r).1 = true) :
    Calls Try.prog 33 #[.pointer (some ⟨q, 0, none⟩), .string ⟨n.toArray⟩, .string ⟨n.toArray⟩] w fun e w' => RefPost F w q (0, { (Dk.tick r).2 with files := Dk.put (Dk.drop r.files n) ⟨n, sf, fb⟩ }) e w' := by
  obtain ⟨ao, nn, c, es, h⟩ := h
  have HM := keep h
  clear h
  have HD := keep hd
  have HX := keep hx
  clear hd hx
  have hnl : n.length ≤ 100 := (named_true hn).2.1
  obtain ⟨FR, hF, F0, F1⟩ : ∃ FR : Int, (r.cap : Int) - (Dk.used r.files : Int) = FR ∧ 0 ≤ FR ∧ FR ≤ 1099511627776 := ⟨_, rfl, by have := HM.out.good.room; omega, by have := HM.out.capb; omega⟩
  have HF := keep hF
  clear hF
  have HT := keep ht
  clear ht
  go_enter Try.func33, Try.ntmps33
  go_wp2_with fail
  refine (rnamed_any n _).mono ?_
  rintro e w0 ⟨rfl, hb⟩
  have b0 := keep hb
  clear hb
  rw [hn]
  go_wp2_with fail
  refine (rnamed_any n _).mono ?_
  rintro e w1 ⟨rfl, hb⟩
  have b1 := keep (b0.out.trans (hb.mono b0.out.size))
  clear hb
  rw [hn]
  go_wp2_with fail
  refine (rright_any true q _ _ _ _ r.dark _ (HM.out.below b1.out).box).mono ?_
  rintro e w2 ⟨rfl, hb⟩
  have b2 := keep (b1.out.trans (hb.mono b1.out.size))
  clear hb
  rw [HD.out]
  go_wp2_with fail
  refine (rat_any _ q ao nn c es r.files n _ (HM.out.below b2.out).box.c1 (HM.out.below b2.out).rows HM.out.few).mono ?_
  rintro e w3 ⟨he, hb⟩
  have b3 := keep (b2.out.trans (hb.mono b2.out.size))
  clear hb
  rw [HX.out] at he
  obtain ⟨i, hi, rfl⟩ : ∃ i : Nat, r.files[i]? = some ⟨nm, sf, fb⟩ ∧ e = .returned (.int .i64 (i : Int)) := by
    rcases he with ⟨h1, _⟩ | ⟨i, f, h1, h2, h3⟩
    · cases h1
    · cases h2
      exact ⟨i, h1, h3⟩
  have HI := keep hi
  have i0 : (0 : Int) ≤ (i : Int) := by omega
  have i1 : i < nn := by
    have h1 := (List.getElem?_eq_some_iff.1 hi).1
    have h2 := HM.out.rows.len
    omega
  have i2 : (i : Int) < (nn : Int) := by omega
  clear he hi
  go_wp2_with fail
  refine (rat_any _ q ao nn c es r.files n _ (HM.out.below b3.out).box.c1 (HM.out.below b3.out).rows HM.out.few).mono ?_
  rintro e w4 ⟨he, hb⟩
  have b4 := keep (b3.out.trans (hb.mono b3.out.size))
  clear hb
  rw [HX.out] at he
  obtain rfl : e = .returned (.int .i64 (i : Int)) := by
    rcases he with ⟨h1, _⟩ | ⟨k, f, h1, h2, h3⟩
    · cases h1
    · cases h2
      rw [h3, rising_inj HM.out.good.rising h1 HI.out]
  clear he
  go_wp2_with fail
  have hfr := rfree_any _ q r.cap ao nn c es r.files w4 (HM.out.below b4.out).box.c0 (HM.out.below b4.out).box.c1 (HM.out.below b4.out).rows HM.out.few HM.out.capb (by have h1 := HM.out.good.room; have h2 := HM.out.capb; omega)
  rw [HF.out] at hfr
  refine hfr.mono ?_
  rintro e w7 ⟨rfl, hb⟩
  have b7 := keep (b4.out.trans (hb.mono b4.out.size))
  have hcmp : ¬ FR < 0 := by omega
  clear hb hfr
  go_wp2_with fail
  clear hcmp
  refine (rstep_ref F q ao nn c es r _ (HM.out.below b7.out) HD.out ho0).mono ?_
  rintro e w5 ⟨rfl, hr5, hk5⟩
  rw [HT.out]
  have R5 := keep hr5
  have K5 := keep ((Kept.of_below (U := At q) b7.out).trans hk5)
  clear hr5 hk5
  obtain ⟨bb5, off5, hao5, hbl5, hat5⟩ := R5.out.rows.at_ (by omega)
  obtain ⟨p, k, hek, hc0, hc1, hc2⟩ := hat5 i ⟨nm, sf, fb⟩ (by rw [(Dk.tick_files r).1]; exact HI.out)
  have hhe := keep (R5.out.rows.held (List.mem_of_getElem? hek))
  have cq := R5.out.box.c1
  rw [hao5] at cq
  have BL := keep ((Below.refl w5.heap.size w5).alloc (Nat.le_refl _) (.cells #[.string ⟨nm.toArray⟩, .int .i64 (sf : Int), .slice p fb.length k] 71))
  have gL := keep (heap_alloc_new w5 (.cells #[.string ⟨nm.toArray⟩, .int .i64 (sf : Int), .slice p fb.length k] 71))
  have R6 := keep (R5.out.below BL.out)
  have hUq : Hid (∀ g, (beside F q g ∨ g = w5.heap.size) → g < (w5.alloc (.cells #[.string ⟨nm.toArray⟩, .int .i64 (sf : Int), .slice p fb.length k] 71)).heap.size) := fun g hg => by
    rcases hg with hg | hg
    · exact R6.out.inside g hg
    · rw [hg]; simp
  have rows6 : Hid (Rows4 (fun g => beside F q g ∨ g = w5.heap.size) (w5.alloc (.cells #[.string ⟨nm.toArray⟩, .int .i64 (sf : Int), .slice p fb.length k] 71)) ao nn c es (Dk.tick r).2.files) := ⟨R5.out.rows.rows.next' (Kept.of_below BL.out) (fun g hg e => by
    rcases e with e | e
    · exact e
    · omega), R5.out.rows.same, R5.out.rows.len⟩
  have hL5 : q ≠ w5.heap.size := fun e => by have := R5.out.box.lt; omega
  clear hat5 hek hao5
  go_wp2_with fail
  refine (rdrop_any (fun g => beside F q g ∨ g = w5.heap.size) q _ ao nn c es _ _ _ _ n _ R6.out.box rows6.out R6.out.few (.inl (.inr rfl)) hUq.out).mono ?_
  rintro e w6' ⟨rfl, ⟨ao', c', es', hb6, hr6⟩, hk6⟩
  rw [(Dk.tick_files r).1] at hb6 hr6
  have g6 := keep ((hk6.block w5.heap.size (by simp) (fun e => hL5 (show w5.heap.size = q from e).symm)).trans gL.out)
  have K6 := keep ((K5.out.trans (Kept.of_below BL.out)).trans hk6)
  have HB6 := keep hb6
  have HR6 := keep hr6
  have SZ6 := keep hk6.size
  have n0 := (cell_of_row _ _ _ _ _ _ g6.out : w6'.cell? ⟨w5.heap.size, 0, none⟩ = some (.string ⟨nm.toArray⟩))
  have n1 := (cell_of_row _ _ _ _ _ _ g6.out : w6'.cell? ⟨w5.heap.size, 1, none⟩ = some (.int .i64 (sf : Int)))
  have n2' := (cell_of_row _ _ _ _ _ _ g6.out : w6'.cell? ⟨w5.heap.size, 2, none⟩ = some (.slice p fb.length k))
  have fz : ∀ j, w6'.frozen? ⟨w5.heap.size, j, none⟩ = false := fun j => by have := g6.out; simp [World.frozen?, this]
  obtain ⟨W7, hW7⟩ : ∃ W7, w6'.setCell ⟨w5.heap.size, 0, none⟩ (.string ⟨n.toArray⟩) = W7 := ⟨_, rfl⟩
  have g7 : W7.heap[w5.heap.size]? = some (.cells #[.string ⟨n.toArray⟩, .int .i64 (sf : Int), .slice p fb.length k] 71 (0, 0)) := by rw [← hW7]; exact set_row g6.out 0 _
  have o0 := (cell_of_row _ _ _ _ _ _ g7 : W7.cell? ⟨w5.heap.size, 0, none⟩ = some (.string ⟨n.toArray⟩))
  have o1 := (cell_of_row _ _ _ _ _ _ g7 : W7.cell? ⟨w5.heap.size, 1, none⟩ = some (.int .i64 (sf : Int)))
  have o2 := (cell_of_row _ _ _ _ _ _ g7 : W7.cell? ⟨w5.heap.size, 2, none⟩ = some (.slice p fb.length k))
  clear g7
  have K7 := keep (show Kept (At q) w W7 by rw [← hW7]; exact K6.out.setCell (p := ⟨w5.heap.size, 0, none⟩) (.inr K5.out.size) _)
  have rb7 := keep (show RBox W7 q _ _ _ _ _ by rw [← hW7]; exact HB6.out.same (Below.heap_setCell w6' ⟨w5.heap.size, 0, none⟩ _ q hL5))
  have rw7 : Hid (Rows4 (beside F q) W7 ao' (Dk.drop r.files n).length c' es' (Dk.drop r.files n)) := by
    have h1 := HR6.out.next (w' := W7) (by rw [← hW7]; exact (Kept.refl _ _).setCell (p := ⟨w5.heap.size, 0, none⟩) (.inl (.inr rfl)) _)
    exact ⟨fun w8 hk8 => h1.rows w8 (hk8.wide (fun g _ e => .inl e)), h1.same, h1.len⟩
  have st7 := keep (hhe.out.next (w' := W7) (by
    rw [← hW7]
    exact (((Kept.of_below BL.out).trans (hk6.wide (fun g _ e => .inr e))).setCell (p := ⟨w5.heap.size, 0, none⟩) (.inr (Nat.le_refl _)) _)))
  have in7 : Hid (∀ g, beside F q g → g < W7.heap.size) := fun g hg => Nat.lt_of_lt_of_le (HM.out.inside g hg) K7.out.size
  have few7 : Hid ((Dk.drop r.files n).length ≤ 1099511627776) := by
    have h1 := Dk.drop_length r.files n
    have h2 := HM.out.few
    have h3 := HM.out.rows.len
    show _ ≤ _
    omega
  clear hb6 hr6 hk6 cq hc0 hc1 hc2
  go_wp2_with fail
  clear hW7 n0 n1 n2' fz o0 o1 o2
  refine (rput_any (beside F q) q _ ao' _ c' es' _ _ _ _ n sf p k fb _ rb7.out rw7.out few7.out (.inr rfl) in7.out (Dk.drop_rising _ HM.out.good.rising) st7.out).mono ?_
  rintro e w9 ⟨rfl, ⟨ao9, c9, es9, hb9, hr9⟩, hk9⟩
  have hgood : Dk.Good { (Dk.tick r).2 with files := Dk.put (Dk.drop r.files n) ⟨n, sf, fb⟩ } := by
    have h1 := Dk.raw_good 2 n n [] HM.out.good
    have hF2 := HF.out
    rw [Dk.raw_do (by show (Dk.named n && Dk.named n) = true; rw [hn]; rfl) HD.out (Dk.rename_room (t := []) HX.out (by rw [Dk.wants_same]; omega)), Dk.write_go HT.out] at h1
    exact h1
  have K9 := keep (K7.out.trans hk9)
  have FIN : Hid (RefAt F w9 q ao9 (Dk.put (Dk.drop r.files n) ⟨n, sf, fb⟩).length c9 es9 { (Dk.tick r).2 with files := Dk.put (Dk.drop r.files n) ⟨n, sf, fb⟩ }) := ⟨hb9, hr9, hgood, R5.out.capb, R5.out.out, fun g hg => Nat.lt_of_lt_of_le (HM.out.lt g hg) K9.out.size, R5.out.leftb⟩
  clear hb9 hr9 hk9 hgood
  go_wp2
  go_ret
  exact ⟨rfl, ⟨_, _, _, _, FIN.out⟩, K9.out⟩
theorem rrename_raw (F : Nat → Prop) (q : Nat) (r : Disk) (n n2 : List UInt8) (w : World) (h : Ref F w q r) (ho : r.done ≤ 4611686018427387904) (y : List UInt8) :
    Calls Try.prog 33 #[.pointer (some ⟨q, 0, none⟩), .string ⟨n.toArray⟩, .string ⟨n2.toArray⟩] w fun e w' => RefPost F w q (Dk.raw r 2 n n2 y) e w' := by
  have stay : ∀ w', Below w.heap.size w w' → Ref F w' q r ∧ Kept (At q) w w' := fun w' hb => by
    obtain ⟨_, _, _, _, h⟩ := h
    exact h.stay hb
  have hgr : Dk.used r.files ≤ r.cap := by
    obtain ⟨_, _, _, _, h⟩ := h
    exact h.good.room
  cases h1 : Dk.named n with
  | false =>
    rw [Dk.raw_arg (by show (Dk.named n && Dk.named n2) = false; rw [h1]; rfl)]
    refine (rrename_arg1 F q r n n2 w h h1).mono ?_
    rintro e w' ⟨rfl, hb⟩
    exact ⟨rfl, stay w' hb⟩
  | true =>
    cases h2 : Dk.named n2 with
    | false =>
      rw [Dk.raw_arg (by show (Dk.named n && Dk.named n2) = false; rw [h2, Bool.and_false])]
      refine (rrename_arg2 F q r n n2 w h h1 h2).mono ?_
      rintro e w' ⟨rfl, hb⟩
      exact ⟨rfl, stay w' hb⟩
    | true =>
      have hok : Dk.okay 2 n n2 y = true := by show (Dk.named n && Dk.named n2) = true; rw [h1, h2]; rfl
      cases hd : r.dark with
      | true =>
        rw [Dk.raw_dark hok hd]
        refine (rrename_dark F q r n n2 w h h1 h2 hd).mono ?_
        rintro e w' ⟨rfl, hb⟩
        exact ⟨rfl, stay w' hb⟩
      | false =>
        cases hx : Dk.look r.files n with
        | none =>
          rw [Dk.raw_own (e := 3) hok hd (by simp only [Dk.planOf, Dk.planRename, hx])]
          refine (rrename_none_none F q r n n2 w h h1 h2 hd hx).mono ?_
          rintro e w' ⟨rfl, hb⟩
          exact ⟨rfl, stay w' hb⟩
        | some f =>
          obtain ⟨nm, sf, fb⟩ := f
          by_cases hne : n2 = n
          · subst hne
            rw [Dk.raw_do hok hd (Dk.rename_room hx (by rw [Dk.wants_same]; omega))]
            cases ht : (Dk.tick r).1 with
            | false => rw [Dk.write_cut ht]; exact rrename_same_cut F q r n2 nm sf fb w h h1 hd hx ho ht
            | true => rw [Dk.write_go ht]; exact rrename_same_go F q r n2 nm sf fb w h h1 hd hx ho ht
          · cases hx2 : Dk.look r.files n2 with
            | none =>
              by_cases hf : ((r.cap : Int) - (Dk.used r.files : Int)) < ((n2.length : Int) - (n.length : Int))
              · rw [Dk.raw_own hok hd (Dk.rename_full hx (by rw [Dk.wants_new hx2]; omega))]
                refine (rrename_new_full F q r n n2 nm sf fb w h h1 h2 hd hx hne hx2 hf).mono ?_
                rintro e w' ⟨rfl, hb⟩
                exact ⟨rfl, stay w' hb⟩
              · rw [Dk.raw_do hok hd (Dk.rename_room hx (by rw [Dk.wants_new hx2]; omega))]
                cases ht : (Dk.tick r).1 with
                | false => rw [Dk.write_cut ht]; exact rrename_new_cut F q r n n2 nm sf fb w h h1 h2 hd hx hne hx2 hf ho ht
                | true => rw [Dk.write_go ht]; exact rrename_new_go F q r n n2 nm sf fb w h h1 h2 hd hx hne hx2 hf ho ht
            | some g =>
              obtain ⟨nm2, sf2, fb2⟩ := g
              by_cases hf : ((r.cap : Int) - (Dk.used r.files : Int)) < ((n2.length : Int) - (n.length : Int) - 16 - (n2.length : Int) - (fb2.length : Int))
              · rw [Dk.raw_own hok hd (Dk.rename_full hx (by rw [Dk.wants_over hx2 hne]; omega))]
                refine (rrename_over_full F q r n n2 nm sf fb nm2 sf2 fb2 w h h1 h2 hd hx hne hx2 hf).mono ?_
                rintro e w' ⟨rfl, hb⟩
                exact ⟨rfl, stay w' hb⟩
              · rw [Dk.raw_do hok hd (Dk.rename_room hx (by rw [Dk.wants_over hx2 hne]; omega))]
                cases ht : (Dk.tick r).1 with
                | false => rw [Dk.write_cut ht]; exact rrename_over_cut F q r n n2 nm sf fb nm2 sf2 fb2 w h h1 h2 hd hx hne hx2 hf ho ht
                | true => rw [Dk.write_go ht]; exact rrename_over_go F q r n n2 nm sf fb nm2 sf2 fb2 w h h1 h2 hd hx hne hx2 hf ho ht
end Go.Proofs.Ytfjhfecjbheipaa
