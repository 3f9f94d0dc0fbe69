/- The walk of DiskRoom. -/
import Derived.Test.YtipkacaekbckhaaPy
namespace Go.Proofs.Ytipkacaekbckhaa
open Go.RowKit
open Dk (File Disk)

theorem used_take (l : List File) : ∀ t : Nat, Dk.used (l.take t) ≤ Dk.used l := by
  induction l with
  | nil => simp
  | cons f l ih =>
    intro t
    cases t with
    | zero => simp [Dk.used]
    | succ t => have := ih t; simp only [List.take_succ_cons, Dk.used]; omega
theorem used_next {l : List File} {t : Nat} {f : File} (h : l[t]? = some f) : Dk.used (l.take (t + 1)) = Dk.used (l.take t) + (16 + f.name.length + f.bytes.length) := by
  rw [List.take_add_one, h]
  exact Dk.used_snoc _ _

set_option maxHeartbeats 2000000 in
set_option maxRecDepth 100000 in
theorem diskRoom_walk (ao : Option Addr) (m c : Nat) (es : List OpE) (w : World) (hs : RSrc opKind w ao m c es) (hc : c ≤ maxLen) (hf : ∀ e ∈ es, Fine e) :
    Calls Try.prog 7 #[.slice ao m c] w fun e w' => e = .returned (.bool true) ∧ Below w.heap.size w w' := by
  have ha := keep (awake_any w)
  have HP : Hid (∀ w1, Below w.heap.size w w1 → Calls Try.prog 31 #[.slice ao m c] w1 fun e w' => ∃ S b d, e = .returned (.pointer (some ⟨b, 0, none⟩)) ∧ Own w1 S w' b d ∧ d.cap = 1048575 ∧ d.done ≤ 100) := fun w1 hb => played_any ao m c es w1 (hs.below opKind_ok hb) hc hf
  clear hs hf hc
  go_enter Try.func7, Try.ntmps7
  go_wp2_with fail
  refine ha.out.mono ?_
  rintro e w1 ⟨rfl, hb1⟩
  have B1 := keep hb1
  clear hb1 ha
  go_wp2_with fail
  refine (HP.out w1 B1.out).mono ?_
  rintro e w2 ⟨S, b, d, rfl, hO, hcap, hdn⟩
  have O2 := keep hO
  have B2 : Hid (Below w.heap.size w w2) := B1.out.trans (hO.bel.mono B1.out.size)
  have HCAP := keep hcap
  clear hO hcap hdn HP B1
  go_wp2_with fail
  refine (dump_mem S b d w2 O2.out.mem).mono ?_
  rintro e w3 ⟨ad, cd, fs, rfl, hcd, hst, hpl, hb3⟩
  have R3 : Hid (Rows4 (Old w2.heap.size) w3 ad d.files.length cd fs d.files) := ⟨hst, hpl, rfl⟩
  have B3 : Hid (Below w.heap.size w w3) := B2.out.trans (hb3.mono B2.out.size)
  have O3 : Hid (Mem S w3 b d) := O2.out.mem.below hb3
  obtain ⟨m3, l3, left3, hM3⟩ := O3.out
  have hroom : Hid (Dk.used d.files ≤ 1048575) := by have h := hM3.good.room; rw [HCAP.out] at h; exact h
  clear hM3 hst hpl hb3 B2 O2
  obtain ⟨N, hN⟩ : ∃ N, d.files.length = N := ⟨_, rfl⟩
  have HN := keep hN
  rw [hN] at R3 ⊢
  have hNs : N ≤ 1048575 := by
    have h1 := used_ge d.files
    have h2 := hroom.out
    have h3 := HN.out
    omega
  clear hN
  go_wp2_with fail
  go_loopw [5, 7] (fun n i wr => ∃ t : Nat, t ≤ N ∧ i = .int .i64 (t : Int) ∧ n = .int .i64 (Dk.used (d.files.take t) : Int) ∧ Hid (Below w3.heap.size w3 wr)) (fun _ i _ => N - (intOf i).toNat)
  case atStart => exact ⟨0, Nat.zero_le _, rfl, rfl, Below.refl _ _⟩
  case round =>
    obtain ⟨t, ht, rfl, rfl, hb⟩ := hrel
    have u1 : Dk.used (d.files.take t) ≤ 1048575 := Nat.le_trans (used_take _ _) hroom.out
    have t0 : (0 : Int) ≤ (t : Int) := by omega
    rcases Nat.lt_or_ge t N with hlt | hge
    · have t1 : (t : Int) < (N : Int) := by omega
      obtain ⟨f, hf⟩ : ∃ f, d.files[t]? = some f := ⟨d.files[t]'(by rw [HN.out]; exact hlt), List.getElem?_eq_getElem _⟩
      have u2 : Dk.used (d.files.take (t + 1)) ≤ 1048575 := Nat.le_trans (used_take _ _) hroom.out
      have hnx := used_next hf
      obtain ⟨bb, off, rfl, _, hat⟩ := (R3.out.below hb.out).at_ (by omega)
      obtain ⟨pp, kk, _, c0, c1, c2⟩ := hat t f hf
      obtain ⟨nm, sf, fb⟩ := f
      simp only at c0 c1 c2 hnx
      have HX := keep hnx
      have u3 : Dk.used (d.files.take t) + (16 + nm.length + fb.length) ≤ 1048575 := by omega
      generalize Dk.used (d.files.take t) = u at *
      clear hat hf hnx u2
      go_wp2_with fail
      go_quiet (fail)
      have hb2 : Hid (Below w3.heap.size w3 (wr.drewN nq)) := hb.out.trans (below_drewN _ _ _)
      go_wp2
      go_roundw
      case rel => exact ⟨t + 1, by omega, by first | rfl | go_num, by rw [HX.out]; first | rfl | (congr 1; omega) | go_num, hb2⟩
      case measure => simp [intOf]; omega
    · have t1 : ¬ (t : Int) < (N : Int) := by omega
      have htt : d.files.take t = d.files := List.take_of_length_le (by rw [HN.out]; exact hge)
      rw [htt] at u1 ⊢
      have OM : Hid (∀ w', Below wr.heap.size wr w' → Mem S w' b d) := fun w' hb' => (O3.out.below hb.out).below hb'
      have HF : Hid (∀ w', Below wr.heap.size wr w' → Calls Try.prog 14 #[.pointer (some ⟨b, 0, none⟩)] w' fun e w'' => e = .returned (.int .i64 (1048575 - (Dk.used d.files : Int))) ∧ Below w'.heap.size w' w'') := fun w' hb' => by have h := free_mem S b d w' (OM.out w' hb'); rw [HCAP.out] at h; exact h
      clear OM
      generalize Dk.used d.files = u at *
      have z1 : (0 : Int) ≤ 1048575 - (u : Int) := by omega
      have z2 : (1048575 - (u : Int)) + (u : Int) = 1048575 := by omega
      go_wp2_with fail
      refine (HF.out _ (Below.refl _ _)).mono ?_
      rintro e w4 ⟨rfl, hb4⟩
      have B4 := keep hb4
      clear hb4
      go_wp2_with fail
      refine (HF.out _ (by first | exact B4.out | exact B4.out.drew)).mono ?_
      rintro e w5 ⟨rfl, hb5⟩
      have B5 : Hid (Below wr.heap.size wr w5) := B4.out.trans (hb5.mono B4.out.size)
      clear hb5
      go_wp2
      go_ret
      exact ⟨rfl, (B3.out.trans (hb.out.mono B3.out.size)).trans (B5.out.mono (Nat.le_trans B3.out.size hb.out.size))⟩
end Go.Proofs.Ytipkacaekbckhaa
