/- The walk of the document's Append: no room, or the cut. -/
import Derived.Test.YtipkacaekbckhaaR4
namespace Go.Proofs.Ytipkacaekbckhaa
open Go.RowKit
open Dk (File Disk)

set_option maxHeartbeats 1000000 in
set_option maxRecDepth 100000 in
theorem rappend_there_full (F : Nat → Prop) (q : Nat) (r : Disk) (n nm t : List UInt8) (sf : Nat) (fb : List UInt8) (ao2 : Option Addr) (c2 : Nat) (w : World) (h : Ref F w q r) (hn : Dk.named n = true) (htl : (t.length : Int) ≤ 4096) (hd : r.dark = false) (hx : Dk.look r.files n = some ⟨nm, sf, fb⟩) (hc : ((r.cap : Int) - (Dk.used r.files : Int)) < (t.length : Int)) :
    Calls Try.prog 41 #[.pointer (some ⟨q, 0, none⟩), .string ⟨n.toArray⟩, .slice ao2 t.length c2] w fun e w' => e = .returned (.int .i64 4) ∧ Below w.heap.size w w' := by
  obtain ⟨ao, nn, c, es, h⟩ := h
  have HM := keep h
  clear h
  have HD := keep hd
  have HX := keep hx
  clear hd hx
  have hnl : n.length ≤ 100 := (named_true hn).2.1
  obtain ⟨FR, hF, F0, F1⟩ : ∃ FR : Int, (r.cap : Int) - (Dk.used r.files : Int) = FR ∧ 0 ≤ FR ∧ FR ≤ 1099511627776 := ⟨_, rfl, by have := HM.out.good.room; omega, by have := HM.out.capb; omega⟩
  rw [hF] at hc
  have HF := keep hF
  have HC := keep hc
  clear hF hc
  go_enter Try.func41, Try.ntmps41
  go_wp2_with fail
  refine (rnamed_any n _).mono ?_
  rintro e w1 ⟨rfl, hb⟩
  have b1 := keep hb
  clear hb
  rw [hn]
  go_wp2_with fail
  refine (rright_any true q _ _ _ _ r.dark _ (HM.out.below b1.out).box).mono ?_
  rintro e w2 ⟨rfl, hb⟩
  have b2 := keep (b1.out.trans (hb.mono b1.out.size))
  clear hb
  rw [HD.out]
  have bA := keep (b2.out.alloc b2.out.size (.cells #[.string ⟨n.toArray⟩, .int .i64 0, .slice none 0 0] 76))
  have gA := keep (heap_alloc_new w2 (.cells #[.string ⟨n.toArray⟩, .int .i64 0, .slice none 0 0] 76))
  go_wp2_with fail
  refine (rat_any _ q ao nn c es r.files n _ (HM.out.below bA.out).box.c1 (HM.out.below bA.out).rows HM.out.few).mono ?_
  rintro e w3 ⟨he, hb⟩
  have b3 := keep (bA.out.trans (hb.mono bA.out.size))
  have g3 := keep ((hb.block w2.heap.size (by simp)).trans gA.out)
  have hLq : w.heap.size ≤ w2.heap.size := b2.out.size
  have hqw : q < w.heap.size := HM.out.box.lt
  clear hb
  rw [HX.out] at he
  obtain ⟨i, hi, rfl⟩ : ∃ i : Nat, r.files[i]? = some ⟨nm, sf, fb⟩ ∧ e = .returned (.int .i64 (i : Int)) := by
    rcases he with ⟨h1, _⟩ | ⟨i, f, h1, h2, h3⟩
    · cases h1
    · cases h2
      exact ⟨i, h1, h3⟩
  have HI := keep hi
  have i0 : (0 : Int) ≤ (i : Int) := by omega
  have i1 : i < nn := by
    have h1 := (List.getElem?_eq_some_iff.1 hi).1
    have h2 := HM.out.rows.len
    omega
  have i2 : (i : Int) < (nn : Int) := by omega
  clear he hi
  obtain ⟨bb, off, rfl, hbl, hat⟩ := (HM.out.below b3.out).rows.at_ (by omega)
  obtain ⟨p, k, hek, hc0, hc1, hc2⟩ := hat i ⟨nm, sf, fb⟩ HI.out
  have hhe := keep (HM.out.rows.held (List.mem_of_getElem? hek))
  have hbw : bb < w.heap.size := by
    obtain ⟨bb', off', e, h1, _⟩ := HM.out.rows.at_ (by omega)
    cases e
    exact h1
  have cq := (HM.out.below b3.out).box.c1
  have k0 := (cell_of_row _ _ _ _ _ _ g3.out : w3.cell? ⟨w2.heap.size, 0, none⟩ = some (.string ⟨n.toArray⟩))
  have k1 := (cell_of_row _ _ _ _ _ _ g3.out : w3.cell? ⟨w2.heap.size, 1, none⟩ = some (.int .i64 0))
  have k2 := (cell_of_row _ _ _ _ _ _ g3.out : w3.cell? ⟨w2.heap.size, 2, none⟩ = some (.slice none 0 0))
  have fz : ∀ j, w3.frozen? ⟨w2.heap.size, j, none⟩ = false := fun j => by have := g3.out; simp [World.frozen?, this]
  obtain ⟨W3, hW3⟩ : ∃ W3, ((w3.setCell ⟨w2.heap.size, 0, none⟩ (.string ⟨nm.toArray⟩)).setCell ⟨w2.heap.size, 1, none⟩ (.int .i64 (sf : Int))).setCell ⟨w2.heap.size, 2, none⟩ (.slice p fb.length k) = W3 := ⟨_, rfl⟩
  have b4 := keep (show Below w.heap.size w W3 by rw [← hW3]; exact ((b3.out.setCell (p := ⟨w2.heap.size, 0, none⟩) hLq _).setCell (p := ⟨w2.heap.size, 1, none⟩) hLq _).setCell (p := ⟨w2.heap.size, 2, none⟩) hLq _)
  have g4 := keep (show W3.heap[w2.heap.size]? = some (.cells #[.string ⟨nm.toArray⟩, .int .i64 (sf : Int), .slice p fb.length k] 76 (0, 0)) by rw [← hW3]; exact set_row (set_row (set_row g3.out 0 _) 1 _) 2 _)
  clear hat hek
  go_wp2_with fail
  clear hW3 k0 k1 k2 fz cq hc0 hc1 hc2
  have hfr := rfree_any _ q r.cap (some ⟨bb, off, none⟩) nn c es r.files W3 (HM.out.below b4.out).box.c0 (HM.out.below b4.out).box.c1 (HM.out.below b4.out).rows HM.out.few HM.out.capb (by have h1 := HM.out.good.room; have h2 := HM.out.capb; omega)
  rw [HF.out] at hfr
  refine hfr.mono ?_
  rintro e w4 ⟨rfl, hb⟩
  have b5 := keep (b4.out.trans (hb.mono b4.out.size))
  have g5 := keep ((hb.block w2.heap.size (Array.getElem?_eq_some_iff.1 g4.out).1).trans g4.out)
  have hcmp := HC.out
  clear hb hfr
  go_wp2
  go_ret
  exact ⟨rfl, b5.out⟩
set_option maxHeartbeats 1000000 in
set_option maxRecDepth 100000 in
theorem rappend_new_full (F : Nat → Prop) (q : Nat) (r : Disk) (n t : List UInt8) (ao2 : Option Addr) (c2 : Nat) (w : World) (h : Ref F w q r) (hn : Dk.named n = true) (htl : (t.length : Int) ≤ 4096) (hd : r.dark = false) (hx : Dk.look r.files n = none) (hc : ((r.cap : Int) - (Dk.used r.files : Int)) < ((t.length : Int) + 16 + (n.length : Int))) :
    Calls Try.prog 41 #[.pointer (some ⟨q, 0, none⟩), .string ⟨n.toArray⟩, .slice ao2 t.length c2] w fun e w' => e = .returned (.int .i64 4) ∧ Below w.heap.size w w' := by
  obtain ⟨ao, nn, c, es, h⟩ := h
  have HM := keep h
  clear h
  have HD := keep hd
  have HX := keep hx
  clear hd hx
  have hnl : n.length ≤ 100 := (named_true hn).2.1
  obtain ⟨FR, hF, F0, F1⟩ : ∃ FR : Int, (r.cap : Int) - (Dk.used r.files : Int) = FR ∧ 0 ≤ FR ∧ FR ≤ 1099511627776 := ⟨_, rfl, by have := HM.out.good.room; omega, by have := HM.out.capb; omega⟩
  rw [hF] at hc
  have HF := keep hF
  have HC := keep hc
  clear hF hc
  go_enter Try.func41, Try.ntmps41
  go_wp2_with fail
  refine (rnamed_any n _).mono ?_
  rintro e w1 ⟨rfl, hb⟩
  have b1 := keep hb
  clear hb
  rw [hn]
  go_wp2_with fail
  refine (rright_any true q _ _ _ _ r.dark _ (HM.out.below b1.out).box).mono ?_
  rintro e w2 ⟨rfl, hb⟩
  have b2 := keep (b1.out.trans (hb.mono b1.out.size))
  clear hb
  rw [HD.out]
  have bA := keep (b2.out.alloc b2.out.size (.cells #[.string ⟨n.toArray⟩, .int .i64 0, .slice none 0 0] 76))
  have gA := keep (heap_alloc_new w2 (.cells #[.string ⟨n.toArray⟩, .int .i64 0, .slice none 0 0] 76))
  go_wp2_with fail
  refine (rat_any _ q ao nn c es r.files n _ (HM.out.below bA.out).box.c1 (HM.out.below bA.out).rows HM.out.few).mono ?_
  rintro e w3 ⟨he, hb⟩
  have b3 := keep (bA.out.trans (hb.mono bA.out.size))
  have g3 := keep ((hb.block w2.heap.size (by simp)).trans gA.out)
  have hLq : w.heap.size ≤ w2.heap.size := b2.out.size
  have hqw : q < w.heap.size := HM.out.box.lt
  clear hb
  rw [HX.out] at he
  obtain rfl : e = .returned (.int .i64 (-1)) := by
    rcases he with ⟨_, h1⟩ | ⟨i, f, _, h1, _⟩
    · exact h1
    · cases h1
  clear he
  have b4 := b3
  have g4 := g3
  go_wp2_with fail
  have hfr := rfree_any _ q r.cap ao nn c es r.files w3 (HM.out.below b4.out).box.c0 (HM.out.below b4.out).box.c1 (HM.out.below b4.out).rows HM.out.few HM.out.capb (by have h1 := HM.out.good.room; have h2 := HM.out.capb; omega)
  rw [HF.out] at hfr
  refine hfr.mono ?_
  rintro e w4 ⟨rfl, hb⟩
  have b5 := keep (b4.out.trans (hb.mono b4.out.size))
  have g5 := keep ((hb.block w2.heap.size (Array.getElem?_eq_some_iff.1 g4.out).1).trans g4.out)
  have hcmp := HC.out
  clear hb hfr
  go_wp2
  go_ret
  exact ⟨rfl, b5.out⟩
set_option maxHeartbeats 1000000 in
set_option maxRecDepth 100000 in
theorem rappend_there_cut (F : Nat → Prop) (q : Nat) (r : Disk) (n nm t : List UInt8) (sf : Nat) (fb : List UInt8) (ao2 : Option Addr) (c2 : Nat) (w : World) (h : Ref F w q r) (hn : Dk.named n = true) (htl : (t.length : Int) ≤ 4096) (hd : r.dark = false) (hx : Dk.look r.files n = some ⟨nm, sf, fb⟩) (hc : ¬ ((r.cap : Int) - (Dk.used r.files : Int)) < (t.length : Int)) (ho0 : r.done ≤ 4611686018427387904) (ht : (Dk.tick r).1 = false) :
    Calls Try.prog 41 #[.pointer (some ⟨q, 0, none⟩), .string ⟨n.toArray⟩, .slice ao2 t.length c2] w fun e w' => RefPost F w q (5, (Dk.tick r).2) e w' := by
  obtain ⟨ao, nn, c, es, h⟩ := h
  have HM := keep h
  clear h
  have HD := keep hd
  have HX := keep hx
  clear hd hx
  have hnl : n.length ≤ 100 := (named_true hn).2.1
  obtain ⟨FR, hF, F0, F1⟩ : ∃ FR : Int, (r.cap : Int) - (Dk.used r.files : Int) = FR ∧ 0 ≤ FR ∧ FR ≤ 1099511627776 := ⟨_, rfl, by have := HM.out.good.room; omega, by have := HM.out.capb; omega⟩
  rw [hF] at hc
  have HF := keep hF
  have HC := keep hc
  clear hF hc
  have HT := keep ht
  clear ht
  go_enter Try.func41, Try.ntmps41
  go_wp2_with fail
  refine (rnamed_any n _).mono ?_
  rintro e w1 ⟨rfl, hb⟩
  have b1 := keep hb
  clear hb
  rw [hn]
  go_wp2_with fail
  refine (rright_any true q _ _ _ _ r.dark _ (HM.out.below b1.out).box).mono ?_
  rintro e w2 ⟨rfl, hb⟩
  have b2 := keep (b1.out.trans (hb.mono b1.out.size))
  clear hb
  rw [HD.out]
  have bA := keep (b2.out.alloc b2.out.size (.cells #[.string ⟨n.toArray⟩, .int .i64 0, .slice none 0 0] 76))
  have gA := keep (heap_alloc_new w2 (.cells #[.string ⟨n.toArray⟩, .int .i64 0, .slice none 0 0] 76))
  go_wp2_with fail
  refine (rat_any _ q ao nn c es r.files n _ (HM.out.below bA.out).box.c1 (HM.out.below bA.out).rows HM.out.few).mono ?_
  rintro e w3 ⟨he, hb⟩
  have b3 := keep (bA.out.trans (hb.mono bA.out.size))
  have g3 := keep ((hb.block w2.heap.size (by simp)).trans gA.out)
  have hLq : w.heap.size ≤ w2.heap.size := b2.out.size
  have hqw : q < w.heap.size := HM.out.box.lt
  clear hb
  rw [HX.out] at he
  obtain ⟨i, hi, rfl⟩ : ∃ i : Nat, r.files[i]? = some ⟨nm, sf, fb⟩ ∧ e = .returned (.int .i64 (i : Int)) := by
    rcases he with ⟨h1, _⟩ | ⟨i, f, h1, h2, h3⟩
    · cases h1
    · cases h2
      exact ⟨i, h1, h3⟩
  have HI := keep hi
  have i0 : (0 : Int) ≤ (i : Int) := by omega
  have i1 : i < nn := by
    have h1 := (List.getElem?_eq_some_iff.1 hi).1
    have h2 := HM.out.rows.len
    omega
  have i2 : (i : Int) < (nn : Int) := by omega
  clear he hi
  obtain ⟨bb, off, rfl, hbl, hat⟩ := (HM.out.below b3.out).rows.at_ (by omega)
  obtain ⟨p, k, hek, hc0, hc1, hc2⟩ := hat i ⟨nm, sf, fb⟩ HI.out
  have hhe := keep (HM.out.rows.held (List.mem_of_getElem? hek))
  have hbw : bb < w.heap.size := by
    obtain ⟨bb', off', e, h1, _⟩ := HM.out.rows.at_ (by omega)
    cases e
    exact h1
  have cq := (HM.out.below b3.out).box.c1
  have k0 := (cell_of_row _ _ _ _ _ _ g3.out : w3.cell? ⟨w2.heap.size, 0, none⟩ = some (.string ⟨n.toArray⟩))
  have k1 := (cell_of_row _ _ _ _ _ _ g3.out : w3.cell? ⟨w2.heap.size, 1, none⟩ = some (.int .i64 0))
  have k2 := (cell_of_row _ _ _ _ _ _ g3.out : w3.cell? ⟨w2.heap.size, 2, none⟩ = some (.slice none 0 0))
  have fz : ∀ j, w3.frozen? ⟨w2.heap.size, j, none⟩ = false := fun j => by have := g3.out; simp [World.frozen?, this]
  obtain ⟨W3, hW3⟩ : ∃ W3, ((w3.setCell ⟨w2.heap.size, 0, none⟩ (.string ⟨nm.toArray⟩)).setCell ⟨w2.heap.size, 1, none⟩ (.int .i64 (sf : Int))).setCell ⟨w2.heap.size, 2, none⟩ (.slice p fb.length k) = W3 := ⟨_, rfl⟩
  have b4 := keep (show Below w.heap.size w W3 by rw [← hW3]; exact ((b3.out.setCell (p := ⟨w2.heap.size, 0, none⟩) hLq _).setCell (p := ⟨w2.heap.size, 1, none⟩) hLq _).setCell (p := ⟨w2.heap.size, 2, none⟩) hLq _)
  have g4 := keep (show W3.heap[w2.heap.size]? = some (.cells #[.string ⟨nm.toArray⟩, .int .i64 (sf : Int), .slice p fb.length k] 76 (0, 0)) by rw [← hW3]; exact set_row (set_row (set_row g3.out 0 _) 1 _) 2 _)
  clear hat hek
  go_wp2_with fail
  clear hW3 k0 k1 k2 fz cq hc0 hc1 hc2
  have hfr := rfree_any _ q r.cap (some ⟨bb, off, none⟩) nn c es r.files W3 (HM.out.below b4.out).box.c0 (HM.out.below b4.out).box.c1 (HM.out.below b4.out).rows HM.out.few HM.out.capb (by have h1 := HM.out.good.room; have h2 := HM.out.capb; omega)
  rw [HF.out] at hfr
  refine hfr.mono ?_
  rintro e w4 ⟨rfl, hb⟩
  have b5 := keep (b4.out.trans (hb.mono b4.out.size))
  have g5 := keep ((hb.block w2.heap.size (Array.getElem?_eq_some_iff.1 g4.out).1).trans g4.out)
  have hcmp := HC.out
  clear hb hfr
  go_wp2_with fail
  clear hcmp
  refine (rstep_ref F q _ nn c es r _ (HM.out.below b5.out) HD.out ho0).mono ?_
  rintro e w5 ⟨rfl, hr5, hk5⟩
  rw [HT.out]
  have R5 := keep hr5
  have K5 := keep ((Kept.of_below (U := At q) b5.out).trans hk5)
  clear hr5 hk5
  go_wp2
  go_ret
  exact ⟨rfl, ⟨_, _, _, _, R5.out⟩, K5.out⟩
set_option maxHeartbeats 1000000 in
set_option maxRecDepth 100000 in
theorem rappend_new_cut (F : Nat → Prop) (q : Nat) (r : Disk) (n t : List UInt8) (ao2 : Option Addr) (c2 : Nat) (w : World) (h : Ref F w q r) (hn : Dk.named n = true) (htl : (t.length : Int) ≤ 4096) (hd : r.dark = false) (hx : Dk.look r.files n = none) (hc : ¬ ((r.cap : Int) - (Dk.used r.files : Int)) < ((t.length : Int) + 16 + (n.length : Int))) (ho0 : r.done ≤ 4611686018427387904) (ht : (Dk.tick r).1 = false) :
    Calls Try.prog 41 #[.pointer (some ⟨q, 0, none⟩), .string ⟨n.toArray⟩, .slice ao2 t.length c2] w fun e w' => RefPost F w q (5, (Dk.tick r).2) e w' := by
  obtain ⟨ao, nn, c, es, h⟩ := h
  have HM := keep h
  clear h
  have HD := keep hd
  have HX := keep hx
  clear hd hx
  have hnl : n.length ≤ 100 := (named_true hn).2.1
  obtain ⟨FR, hF, F0, F1⟩ : ∃ FR : Int, (r.cap : Int) - (Dk.used r.files : Int) = FR ∧ 0 ≤ FR ∧ FR ≤ 1099511627776 := ⟨_, rfl, by have := HM.out.good.room; omega, by have := HM.out.capb; omega⟩
  rw [hF] at hc
  have HF := keep hF
  have HC := keep hc
  clear hF hc
  have HT := keep ht
  clear ht
  go_enter Try.func41, Try.ntmps41
  go_wp2_with fail
  refine (rnamed_any n _).mono ?_
  rintro e w1 ⟨rfl, hb⟩
  have b1 := keep hb
  clear hb
  rw [hn]
  go_wp2_with fail
  refine (rright_any true q _ _ _ _ r.dark _ (HM.out.below b1.out).box).mono ?_
  rintro e w2 ⟨rfl, hb⟩
  have b2 := keep (b1.out.trans (hb.mono b1.out.size))
  clear hb
  rw [HD.out]
  have bA := keep (b2.out.alloc b2.out.size (.cells #[.string ⟨n.toArray⟩, .int .i64 0, .slice none 0 0] 76))
  have gA := keep (heap_alloc_new w2 (.cells #[.string ⟨n.toArray⟩, .int .i64 0, .slice none 0 0] 76))
  go_wp2_with fail
  refine (rat_any _ q ao nn c es r.files n _ (HM.out.below bA.out).box.c1 (HM.out.below bA.out).rows HM.out.few).mono ?_
  rintro e w3 ⟨he, hb⟩
  have b3 := keep (bA.out.trans (hb.mono bA.out.size))
  have g3 := keep ((hb.block w2.heap.size (by simp)).trans gA.out)
  have hLq : w.heap.size ≤ w2.heap.size := b2.out.size
  have hqw : q < w.heap.size := HM.out.box.lt
  clear hb
  rw [HX.out] at he
  obtain rfl : e = .returned (.int .i64 (-1)) := by
    rcases he with ⟨_, h1⟩ | ⟨i, f, _, h1, _⟩
    · exact h1
    · cases h1
  clear he
  have b4 := b3
  have g4 := g3
  go_wp2_with fail
  have hfr := rfree_any _ q r.cap ao nn c es r.files w3 (HM.out.below b4.out).box.c0 (HM.out.below b4.out).box.c1 (HM.out.below b4.out).rows HM.out.few HM.out.capb (by have h1 := HM.out.good.room; have h2 := HM.out.capb; omega)
  rw [HF.out] at hfr
  refine hfr.mono ?_
  rintro e w4 ⟨rfl, hb⟩
  have b5 := keep (b4.out.trans (hb.mono b4.out.size))
  have g5 := keep ((hb.block w2.heap.size (Array.getElem?_eq_some_iff.1 g4.out).1).trans g4.out)
  have hcmp := HC.out
  clear hb hfr
  go_wp2_with fail
  clear hcmp
  refine (rstep_ref F q _ nn c es r _ (HM.out.below b5.out) HD.out ho0).mono ?_
  rintro e w5 ⟨rfl, hr5, hk5⟩
  rw [HT.out]
  have R5 := keep hr5
  have K5 := keep ((Kept.of_below (U := At q) b5.out).trans hk5)
  clear hr5 hk5
  go_wp2
  go_ret
  exact ⟨rfl, ⟨_, _, _, _, R5.out⟩, K5.out⟩
end Go.Proofs.Ytipkacaekbckhaa
