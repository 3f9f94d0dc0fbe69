/- The walk of DiskSure. -/
import Derived.Test.YtipkacaekbckhaaPy
namespace Go.Proofs.Ytipkacaekbckhaa
open Go.RowKit
open Dk (File Disk)

set_option maxHeartbeats 2000000 in
set_option maxRecDepth 100000 in
theorem diskSure_walk (ao : Option Addr) (m c : Nat) (es : List OpE) (pa : Option Addr) (pm pc : Nat) (ps : List Int) (qa : Option Addr) (qm qc : Nat) (qs : List Int) (w : World) (hs : RSrc opKind w ao m c es) (hc : c ≤ maxLen) (hf : ∀ e ∈ es, Fine e)
    (hp : RSrc intKind w pa pm pc ps) (hpc : pc ≤ maxLen) (hq : RSrc intKind w qa qm qc qs) (hqc : qc ≤ maxLen) :
    Calls Try.prog 5 #[.slice ao m c, .slice pa pm pc, .slice qa qm qc] w fun e w' => e = .returned (.bool true) ∧ Below w.heap.size w w' := by
  have ha := keep (awake_any w)
  have HP : Hid (∀ w1, Below w.heap.size w w1 → Calls Try.prog 31 #[.slice ao m c] w1 fun e w' => ∃ S b d, e = .returned (.pointer (some ⟨b, 0, none⟩)) ∧ Own w1 S w' b d ∧ d.cap = 1048575 ∧ d.done ≤ 100) := fun w1 hb => played_any ao m c es w1 (hs.below opKind_ok hb) hc hf
  have HPS := keep hp
  have HQS := keep hq
  have hpm : pm ≤ maxLen := Nat.le_trans hp.cap hpc
  have hqm : qm ≤ maxLen := Nat.le_trans hq.cap hqc
  have HPM := keep hpm
  have HQM := keep hqm
  clear hs hf hc hp hq hpc hqc hpm hqm
  go_enter Try.func5, Try.ntmps5
  go_wp2_with fail
  refine ha.out.mono ?_
  rintro e w1 ⟨rfl, hb1⟩
  have B1 := keep hb1
  clear hb1 ha
  go_wp2_with fail
  refine (HP.out w1 B1.out).mono ?_
  rintro e w2 ⟨S, b, d, rfl, hO, hcap, hdn⟩
  have O2 : Hid (Own w S w2 b d) := ⟨hO.mem, fun g hg => Nat.le_trans B1.out.size (hO.news g hg), Nat.le_trans B1.out.size hO.at_, B1.out.trans (hO.bel.mono B1.out.size)⟩
  have HG : Hid (Dk.Good d) := by obtain ⟨_, _, _, h⟩ := hO.mem; exact h.good
  have HCAP := keep hcap
  obtain ⟨N, hN⟩ : ∃ N, d.files.length = N := ⟨_, rfl⟩
  have HN := keep hN
  have hN5 : (Dk.crash d (ps.map up)).files.length = N := (Dk.keptAll_length _ _).trans hN
  have HN5 := keep hN5
  have hNs : N ≤ 1048575 := by
    have h1 := used_ge d.files
    have h2 := HG.out.room
    omega
  clear hO hcap hdn HP B1 hN hN5
  go_wp2_with fail
  refine (dump_mem S b d w2 O2.out.mem).mono ?_
  rintro e w3 ⟨ad, cd, fs, rfl, hcd, hst, hpl, hb3⟩
  rw [HN.out] at hst ⊢
  have R3 : Hid (Rows4 (Old w2.heap.size) w3 ad N cd fs d.files) := ⟨hst, hpl, HN.out.symm⟩
  have O3 : Hid (Own w S w3 b d) := O2.out.next hb3
  have hm3 : Hid (∀ g, Go.Proofs.Ytipkacaekbckhaa.mine S b g → g < w2.heap.size) := fun g hg => (O2.out.mines g hg).2
  have s23 : Hid (w2.heap.size ≤ w3.heap.size) := hb3.size
  clear hst hpl hb3 O2
  go_wp2_with fail
  refine (crash_mem S b d pa pm pc ps _ O3.out.mem (fun w' hk => HPS.out.below intKind_ok (O3.out.bel.trans (hk.below O3.out.bel.size (fun g hg => (O3.out.mines g hg).1)))) HPM.out).mono ?_
  intro e w4 hr
  obtain ⟨rfl, hq4⟩ := O3.out.raw hr
  have O4 := keep hq4
  have K34 : Hid (Kept (fun g => g < w2.heap.size ∨ w3.heap.size ≤ g) w3 w4) := hr.2.2.wide (fun g _ hg => .inl (hm3.out g hg))
  have s34 : Hid (w3.heap.size ≤ w4.heap.size) := hr.2.2.size
  have hm4 : Hid (∀ g, Go.Proofs.Ytipkacaekbckhaa.mine (more S w3 w4) b g → (g < w2.heap.size ∨ w3.heap.size ≤ g) ∧ g < w4.heap.size) := fun g hg => ⟨by
    rcases hg with (hg | hg) | hg
    · exact .inl (hm3.out g (.inl hg))
    · exact .inr hg.1
    · exact .inl (hm3.out g (.inr hg)), (hq4.mines g hg).2⟩
  generalize more S w3 w4 = S4 at *
  clear hr hq4 O3
  go_wp2_with fail
  refine (dump_mem S4 b _ w4 O4.out.mem).mono ?_
  rintro e w5 ⟨ad5, cd5, fs5, rfl, hcd5, hst, hpl, hb5⟩
  rw [HN5.out] at hst ⊢
  have R5 : Hid (Rows4 (Old w4.heap.size) w5 ad5 N cd5 fs5 (Dk.crash d (ps.map up)).files) := ⟨hst, hpl, HN5.out.symm⟩
  have O5 := keep (O4.out.next hb5)
  have K35 : Hid (Kept (fun g => g < w2.heap.size ∨ w3.heap.size ≤ g) w3 w5) := K34.out.trans (Kept.of_below hb5)
  clear hst hpl K34 O4
  go_wp2_with fail
  refine (crash_mem S4 b _ qa qm qc qs _ O5.out.mem (fun w' hk => HQS.out.below intKind_ok (O5.out.bel.trans (hk.below O5.out.bel.size (fun g hg => (O5.out.mines g hg).1)))) HQM.out).mono ?_
  intro e w6 hr
  obtain ⟨rfl, hq6⟩ := O5.out.raw hr
  have O6 := keep hq6
  have K36 : Hid (Kept (fun g => g < w2.heap.size ∨ w3.heap.size ≤ g) w3 w6) := K35.out.trans (hr.2.2.wide (fun g _ hg => (hm4.out g hg).1))
  have R56 : Hid (Rows4 (Old w4.heap.size) w6 ad5 N cd5 fs5 (Dk.crash d (ps.map up)).files) := R5.out.next (hr.2.2.wide (fun g _ hg => (hm4.out g hg).2))
  have R36 : Hid (Rows4 (Old w2.heap.size) w6 ad N cd fs d.files) := R3.out.next (K36.out.wide (fun g hg h => by rcases h with h | h; exact h; omega))
  have s46 : Hid (w4.heap.size ≤ w6.heap.size) := Nat.le_trans hb5.size hr.2.2.size
  have b06 : Hid (Below w.heap.size w w6) := hq6.bel
  clear hr hq6 O5 K35 K36 R3 R5 hb5
  go_wp2_with fail
  have hof : Calls Try.prog 17 #[.pointer (some ⟨b, 0, none⟩)] w6 fun e w' => e = .returned (.bool false) ∧ Below w6.heap.size w6 w' := off_mem _ b _ w6 O6.out.mem
  refine hof.mono ?_
  rintro e w7 ⟨rfl, hb7⟩
  have O7 := keep (O6.out.next hb7)
  have B67 := keep hb7
  clear O6 hof hb7
  generalize more S4 w5 w6 = S6 at O7
  go_wp2_with fail
  refine (theirs_any _ ad5 N cd5 fs5 _ w7 (R56.out.below B67.out) (by omega) (fun g hg => ?_)).mono ?_
  · exact Nat.lt_of_lt_of_le hg (Nat.le_trans s46.out B67.out.size)
  rintro e w8 ⟨ad8, cd8, fs8, rfl, hr8, hb8⟩
  have R8 := keep hr8
  have O8 := keep (O7.out.next hb8)
  have B68 : Hid (Below w6.heap.size w6 w8) := B67.out.trans (hb8.mono B67.out.size)
  clear O7 hr8 hb8
  go_wp2_with fail
  refine (dump_mem S6 b _ w8 O8.out.mem).mono ?_
  rintro e w9 ⟨ad9, cd9, fs9, rfl, hcd9, hst, hpl, hb9⟩
  have e9 : (Dk.crash (Dk.crash d (ps.map up)) (qs.map up)).files = (Dk.crash d (ps.map up)).files := Dk.crash_twice HG.out.safes _ _
  rw [e9] at hst hpl ⊢
  rw [HN5.out] at hst ⊢
  have R9 : Hid (Rows4 (Old w8.heap.size) w9 ad9 N cd9 fs9 (Dk.crash d (ps.map up)).files) := ⟨hst, hpl, HN5.out.symm⟩
  have B89 := keep hb9
  clear hst hpl hb9 e9
  go_wp2_with fail
  refine (theirs_any _ ad9 N cd9 fs9 _ w9 R9.out (by omega) (fun g hg => Nat.lt_of_lt_of_le hg B89.out.size)).mono ?_
  rintro e w10 ⟨ad10, cd10, fs10, rfl, hr10, hb10⟩
  have R10 := keep hr10
  have R8' := keep ((R8.out.below B89.out).below hb10)
  have B6 : Hid (Below w6.heap.size w6 w10) := (B68.out.trans (B89.out.mono B68.out.size)).trans (hb10.mono (Nat.le_trans B68.out.size B89.out.size))
  clear hr10 hb10 R9 R8 B89 B68
  go_wp2_with fail
  refine (same_files ad8 N cd8 fs8 _ _ ad10 N cd10 fs10 _ _ w10 R8'.out R10.out (by omega)).mono ?_
  rintro e w11 ⟨⟨x, rfl, hx⟩, hb11⟩
  obtain rfl : x = true := hx.2 rfl
  have B11 : Hid (Below w6.heap.size w6 w11) := B6.out.trans (hb11.mono B6.out.size)
  clear hx hb11 R10 R8' B6
  go_wp2_with fail
  clear HPS HQS HPM HQM hm3 hm4 s23 s34 s46 O8
  go_loopw [13] (fun i wr => ∃ t : Nat, t ≤ N ∧ i = .int .i64 (t : Int) ∧ Hid (Below w6.heap.size w6 wr)) (fun i _ => N - (intOf i).toNat)
  case atStart => exact ⟨0, Nat.zero_le _, rfl, B11.out⟩
  case round =>
    obtain ⟨t, ht, rfl, hb⟩ := hrel
    have t0 : (0 : Int) ≤ (t : Int) := by omega
    rcases Nat.lt_or_ge t N with hlt | hge
    · have t1 : (t : Int) < (N : Int) := by omega
      obtain ⟨f, hf⟩ : ∃ f, d.files[t]? = some f := ⟨d.files[t]'(by rw [HN.out]; exact hlt), List.getElem?_eq_getElem _⟩
      have hsf := HG.out.safes f (List.mem_of_getElem? hf)
      have hg : (Dk.crash d (ps.map up)).files[t]? = some (Dk.kept f (Dk.pick (ps.map up) t)) := by
        show (Dk.keptAll d.files (ps.map up))[t]? = _
        rw [Dk.keptAll_at, hf]
        rfl
      have hle := Dk.kept_le (Dk.pick (ps.map up) t) hsf
      have Ra := R36.out.below hb.out
      have Rb := R56.out.below hb.out
      obtain ⟨ba, oa, rfl, _, hat⟩ := Ra.at_ (by omega)
      obtain ⟨bb, ob, rfl, _, hbt⟩ := Rb.at_ (by omega)
      obtain ⟨p1, k1, hek1, a0, a1, a2⟩ := hat t f hf
      obtain ⟨p2, k2, hek2, b0, b1, b2⟩ := hbt t _ hg
      have s1 : Src wr p1 f.bytes.length k1 f.bytes := (Ra.held (List.mem_of_getElem? hek1)).here
      have s2 : Src wr p2 (Dk.kept f (Dk.pick (ps.map up) t)).bytes.length k2 (Dk.kept f (Dk.pick (ps.map up) t)).bytes := (Rb.held (List.mem_of_getElem? hek2)).here
      obtain ⟨nm, sf, fb⟩ := f
      simp only [Dk.kept] at b0 b1 b2 s2 hle hsf a0 a1 a2 s1
      obtain ⟨K, hK⟩ : ∃ K, sf + Dk.pick (ps.map up) t % (fb.length - sf + 1) = K := ⟨_, rfl⟩
      rw [hK] at b1 b2 s2 hle
      have hsK : sf ≤ K := by omega
      have htk : (fb.take K).length = K := by rw [List.length_take]; omega
      rw [htk] at b2 s2
      have sc := s1.cut hle
      obtain ⟨L, hL⟩ : ∃ L, fb.length = L := ⟨_, rfl⟩
      have hkL : K ≤ L := by omega
      have hkc : K ≤ k1 := Nat.le_trans hle s1.cap
      rw [hL] at a2
      have hpn : Hid ((p1 = none ∧ L = 0 ∧ k1 = 0) ∨ ∃ pad, p1 = some pad) := by
        cases p1 with
        | none =>
          obtain ⟨h1, h2⟩ := s1.nil rfl
          exact .inl ⟨rfl, by omega, h2⟩
        | some ad => exact .inr ⟨ad, rfl⟩
      generalize fb.take K = tk at s2 sc
      have S2 := keep s2
      have SC := keep sc
      have x1 : (sf : Int) ≤ (K : Int) := by omega
      have x2 : (K : Int) ≤ (L : Int) := by omega
      have x3 : (K : Int) ≤ (k1 : Int) := by omega
      have x4 : (0 : Int) ≤ (K : Int) := by omega
      clear hat hbt hf hg hek1 hek2 Ra Rb s1 s2 sc hK htk hL hle hsf hkc
      obtain ⟨W1, hW1⟩ : ∃ W1, wr.alloc (.cells #[.string ⟨nm.toArray⟩, .int .i64 (sf : Int), .slice p1 L k1] 69) = W1 := ⟨_, rfl⟩
      have v1 : Hid (Below wr.heap.size wr W1) := by rw [← hW1]; exact (Below.refl _ _).alloc (Nat.le_refl _) _
      have g1 : Hid (W1.heap[wr.heap.size]? = some (.cells #[.string ⟨nm.toArray⟩, .int .i64 (sf : Int), .slice p1 L k1] 69)) := by rw [← hW1]; exact heap_alloc_new wr _
      obtain ⟨W2, hW2⟩ : ∃ W2, W1.alloc (.cells #[.string ⟨nm.toArray⟩, .int .i64 (K : Int), .slice p2 K k2] 69) = W2 := ⟨_, rfl⟩
      have v2 : Hid (Below W1.heap.size W1 W2) := by rw [← hW2]; exact (Below.refl _ _).alloc (Nat.le_refl _) _
      have g2 : Hid (W2.heap[W1.heap.size]? = some (.cells #[.string ⟨nm.toArray⟩, .int .i64 (K : Int), .slice p2 K k2] 69)) := by rw [← hW2]; exact heap_alloc_new W1 _
      have b0' := below_cell v1.out b0
      have b1' := below_cell v1.out b1
      have b2' := below_cell v1.out b2
      have i0 := below_cell v2.out (cell_of_row _ _ _ _ _ _ g1.out : W1.cell? ⟨wr.heap.size, 0, none⟩ = some (.string ⟨nm.toArray⟩))
      have i1 := below_cell v2.out (cell_of_row _ _ _ _ _ _ g1.out : W1.cell? ⟨wr.heap.size, 1, none⟩ = some (.int .i64 (sf : Int)))
      have i2 := below_cell v2.out (cell_of_row _ _ _ _ _ _ g1.out : W1.cell? ⟨wr.heap.size, 2, none⟩ = some (.slice p1 L k1))
      have j0 := (cell_of_row _ _ _ _ _ _ g2.out : W2.cell? ⟨W1.heap.size, 0, none⟩ = some (.string ⟨nm.toArray⟩))
      have j1 := (cell_of_row _ _ _ _ _ _ g2.out : W2.cell? ⟨W1.heap.size, 1, none⟩ = some (.int .i64 (K : Int)))
      have j2 := (cell_of_row _ _ _ _ _ _ g2.out : W2.cell? ⟨W1.heap.size, 2, none⟩ = some (.slice p2 K k2))
      have B62 : Hid (Below w6.heap.size w6 W2) := (hb.out.trans (v1.out.mono hb.out.size)).trans (v2.out.mono (Nat.le_trans hb.out.size v1.out.size))
      have cva := fun n => conv_src (((SC.out.below v1.out).below v2.out).below (below_drewN W2.heap.size W2 n))
      have cvb := fun n => conv_src (((S2.out.below v1.out).below v2.out).below (below_drewN W2.heap.size W2 n))
      rcases hpn.out with ⟨rfl, rfl, rfl⟩ | ⟨pad, rfl⟩
      · obtain rfl : K = 0 := by omega
        obtain rfl : sf = 0 := by omega
        replace hW1 : wr.alloc (.cells #[.string ⟨nm.toArray⟩, .int .i64 0, .slice none 0 0] 69) = W1 := hW1
        replace hW2 : W1.alloc (.cells #[.string ⟨nm.toArray⟩, .int .i64 0, .slice p2 0 k2] 69) = W2 := hW2
        replace a1 : wr.cell? ⟨ba, oa + t * 3 + 1, none⟩ = some (.int .i64 0) := a1
        replace b1' : W1.cell? ⟨bb, ob + t * 3 + 1, none⟩ = some (.int .i64 0) := b1'
        replace i1 : W2.cell? ⟨wr.heap.size, 1, none⟩ = some (.int .i64 0) := i1
        replace j1 : W2.cell? ⟨W1.heap.size, 1, none⟩ = some (.int .i64 0) := j1
        have hz : W1.heap.size = wr.heap.size + 1 := by rw [← hW1]; simp
        rw [hz] at j0 j1 j2
        rw [← hW1] at b0' b1' b2'
        have H12 : Hid ((wr.alloc (.cells #[.string ⟨nm.toArray⟩, .int .i64 0, .slice none 0 0] 69)).alloc (.cells #[.string ⟨nm.toArray⟩, .int .i64 0, .slice p2 0 k2] 69) = W2) := by show _ = _; rw [hW1]; exact hW2
        clear x1 x2 x3 x4 b1 hz hW1 hW2 b0 b2
        go_wp2_with fail
        rw [H12.out]
        clear b0' b1' b2'
        go_quiet (fail)
        have hb2 : Hid (Below w6.heap.size w6 (W2.drewN nq)) := B62.out.trans (below_drewN _ _ _)
        go_wp2
        go_roundw
        case rel => exact ⟨t + 1, by omega, by first | rfl | go_num, hb2⟩
        case measure => simp [intOf]; omega
      · go_wp2_with fail
        clear hW1 hW2
        go_quiet (fail)
        have hb2 : Hid (Below w6.heap.size w6 (W2.drewN nq)) := B62.out.trans (below_drewN _ _ _)
        go_wp2
        go_roundw
        case rel => exact ⟨t + 1, by omega, by first | rfl | go_num, hb2⟩
        case measure => simp [intOf]; omega
    · have t1 : ¬ (t : Int) < (N : Int) := by omega
      go_wp2
      go_ret
      exact ⟨rfl, b06.out.trans (hb.out.mono b06.out.size)⟩
end Go.Proofs.Ytipkacaekbckhaa
