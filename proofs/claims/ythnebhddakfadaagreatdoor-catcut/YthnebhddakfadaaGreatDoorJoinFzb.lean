/- The walk of disk's Cut, all its cases. -/
/- A number under a mask; no walk. -/
/- CatCut's walk. -/
import Derived.Test.YthnebhddakfadaaGreatDoorJoinOz
import Derived.Test.YthnebhddakfadaaGreatDoorJoinMe
import Derived.Test.YthnebhddakfadaaGreatDoorJoinFza
import Derived.Test.YthnebhddakfadaaGreatDoorJoinFzd
import Derived.Test.YthnebhddakfadaaGreatDoorJoinFo
import Derived.Test.YthnebhddakfadaaGreatDoorJoinOi
namespace Go.Proofs.YthnebhddakfadaaGreatDoor
open Go.RowKit
open Dk (File Disk)

theorem cut_mem (S : Nat → Prop) (b : Nat) (d : Disk) (z : Int) (w : World) (h : Mem S w b d) (hz : z < 9223372036854775808) :
    Calls Tryz.prog 24 #[.pointer (some ⟨b, 0, none⟩), .int .i64 z] w fun e w' => RawPost S w b (Dk.cut d z) e w' := by
  obtain ⟨m, l, left, h⟩ := h
  by_cases hn : z < 0
  · refine (cut_neg z hn b m _ left _ _ w h.box).mono ?_
    rintro e w' ⟨rfl, hb⟩
    have e1 : Dk.cut d z = (1, d) := by unfold Dk.cut; rw [if_pos hn]
    rw [e1]
    exact ⟨rfl, h.stay hb⟩
  · refine (cut_box z hn b m _ left _ _ w h.box).mono ?_
    rintro e w' ⟨rfl, hb, hk⟩
    have hne : ∀ g, S g → ¬ At b g := fun g hg e => h.out (by rw [← (show g = b from e)]; exact hg)
    have hg := Dk.cut_good z h.good
    have core : ∀ d' : Disk, d'.cap = d.cap → d'.files = d.files → d'.dark = d.dark → d'.done = d.done → Dk.Good d' → (d'.dark = false → z = leftOf d'.left) → MemAt S w' b m l z d' := by
      intro d' q1 q2 q3 q4 q5 q6
      refine ⟨q5, by rw [q1]; exact h.capb, by rw [q1, q2, q3, q4]; exact hb, h.map.same (hk.block m (h.lt m h.foot.mine) (hne m h.foot.mine)), ?_, h.foot, h.out, fun g hgs => Nat.lt_of_lt_of_le (h.lt g hgs) hk.size, q6, by omega⟩
      rw [q2]
      exact h.rel.turn (fun _ e => e) (fun x hx _ g hgx => hk.block g (h.lt g (h.foot.arrs x hx g hgx).1) (hne g (h.foot.arrs x hx g hgx).1))
    have hM : MemAt S w' b m l z (Dk.cut d z).2 := by
      cases hd : d.dark with
      | true =>
        have e1 : Dk.cut d z = (0, d) := by unfold Dk.cut; rw [if_neg hn, hd]; rfl
        rw [e1] at hg ⊢
        exact core d rfl rfl rfl rfl hg (fun e => by rw [hd] at e; cases e)
      | false =>
        have e1 : Dk.cut d z = (0, { d with left := some z.toNat }) := by unfold Dk.cut; rw [if_neg hn, hd]; rfl
        rw [e1] at hg ⊢
        exact core _ rfl rfl rfl rfl hg (fun _ => by show z = ((z.toNat : Nat) : Int); omega)
    have e2 : (Dk.cut d z).1 = 0 := by unfold Dk.cut; rw [if_neg hn]
    refine ⟨by rw [e2]; rfl, MemAt.grow h.box.lt h.out hM.lt hM (Kept.refl _ _) (hk.wide (fun g _ e => .inr e))⟩
end Go.Proofs.YthnebhddakfadaaGreatDoor
namespace Go.Proofs.YthnebhddakfadaaGreatDoor
open Go.RowKit

theorem and_le (x : Int) (m : Nat) (hm : m < 9223372036854775808) : ∃ k : Nat, bits BinOp.and IntKind.i64 x (m : Int) = (k : Int) ∧ k ≤ m := by
  have e : bits BinOp.and IntKind.i64 x (m : Int) = IntKind.i64.wrap ((BitVec.ofInt 64 x &&& BitVec.ofInt 64 (m : Int)).toNat : Int) := rfl
  have hb : (BitVec.ofInt 64 (m : Int)).toNat = m := by
    rw [BitVec.toNat_ofInt]
    have : ((m : Int) % ((2 ^ 64 : Nat) : Int)) = (m : Int) := Int.emod_eq_of_lt (by omega) (by omega)
    rw [this]; rfl
  have hle : (BitVec.ofInt 64 x &&& BitVec.ofInt 64 (m : Int)).toNat ≤ m := by
    rw [BitVec.toNat_and, hb]
    exact Nat.and_le_right
  refine ⟨(BitVec.ofInt 64 x &&& BitVec.ofInt 64 (m : Int)).toNat, ?_, hle⟩
  rw [e, IntKind.wrap_i64]
  omega
end Go.Proofs.YthnebhddakfadaaGreatDoor
namespace Go.Proofs.YthnebhddakfadaaGreatDoor
open Go.RowKit
open Dk (File Disk)

theorem TwI.raw {w : World} {b k : Nat} {W W' : World} {d d' : Disk} (h : TwI w b k W d) {S S' : Nat → Prop} (h1 : DW w S W b d) (hO : Own (Go.Proofs.YthnebhddakfadaaGreatDoor.mine S b) W S' W' b d') (hv : Vn d') (hc : d'.cap = d.cap) (hd : d'.done ≤ d.done) : TwI w b k W' d' :=
  ⟨⟨S', h1.then hO⟩, hv, hc.trans h.cap, Nat.le_trans hd h.done⟩
set_option maxHeartbeats 8000000 in
set_option maxRecDepth 100000 in
theorem cut_walk (xp : Option Addr) (xn xc : Nat) (xgen xnext xlog xseq : Int) (xes : List MV) (yp : Option Addr) (yn yc : Nat) (ygen ynext ylog yseq : Int) (yes : List MV) (cut : Int) (pa : Option Addr) (pn pc : Nat) (zs : List Int) (w : World) (hx : VV.held w ⟨xp, xn, xc, xgen, xnext, xlog, xseq, xes⟩) (hy : VV.held w ⟨yp, yn, yc, ygen, ynext, ylog, yseq, yes⟩) (hp : RSrc intKind w pa pn pc zs) (hpc : pc ≤ maxLen) (hg : Gl w) :
    Calls Tryz.prog 4 #[.agg #[.int .i64 xgen, .int .i64 xnext, .int .i64 xlog, .int .i64 xseq, .slice xp xn xc], .agg #[.int .i64 ygen, .int .i64 ynext, .int .i64 ylog, .int .i64 yseq, .slice yp yn yc], .int .i64 cut, .slice pa pn pc] w fun e w' => e = .returned (.bool true) ∧ Below w.heap.size w w' := by
  obtain ⟨J, hJ, hJ1⟩ := and_le cut 31 (by decide)
  have hJ2 : bits BinOp.and IntKind.i64 cut 31 = (J : Int) := hJ
  have PL : Hid (pn ≤ maxLen) := Nat.le_trans hp.cap hpc
  obtain ⟨W1, hW1⟩ : ∃ W1, (w.alloc (.cells #[.int .i64 xgen, .int .i64 xnext, .int .i64 xlog, .int .i64 xseq, .slice xp xn xc] 34)).alloc (.cells #[.int .i64 ygen, .int .i64 ynext, .int .i64 ylog, .int .i64 yseq, .slice yp yn yc] 34) = W1 := ⟨_, rfl⟩
  have b1 : Hid (Below w.heap.size w W1) := by rw [← hW1]; exact ((Below.refl _ _).alloc (Nat.le_refl _) _).alloc (by simp) _
  have g0 : Hid (W1.heap[w.heap.size]? = some (.cells #[.int .i64 xgen, .int .i64 xnext, .int .i64 xlog, .int .i64 xseq, .slice xp xn xc] 34)) := by
    rw [← hW1]; exact (Below.heap_alloc _ _ _ (by simp)).trans (heap_alloc_new w _)
  have g1 : Hid (W1.heap[w.heap.size + 1]? = some (.cells #[.int .i64 ygen, .int .i64 ynext, .int .i64 ylog, .int .i64 yseq, .slice yp yn yc] 34)) := by
    have := heap_alloc_new (w.alloc (.cells #[.int .i64 xgen, .int .i64 xnext, .int .i64 xlog, .int .i64 xseq, .slice xp xn xc] 34)) (.cells #[.int .i64 ygen, .int .i64 ynext, .int .i64 ylog, .int .i64 yseq, .slice yp yn yc] 34)
    rw [World.size_alloc] at this
    rw [← hW1]; exact this
  have BX : Hid (∀ w', Below W1.heap.size W1 w' → w'.cell? ⟨w.heap.size, 0, none⟩ = some (.int .i64 xgen) ∧ w'.cell? ⟨w.heap.size, 1, none⟩ = some (.int .i64 xnext) ∧ w'.cell? ⟨w.heap.size, 2, none⟩ = some (.int .i64 xlog) ∧ w'.cell? ⟨w.heap.size, 3, none⟩ = some (.int .i64 xseq) ∧ w'.cell? ⟨w.heap.size, 4, none⟩ = some (.slice xp xn xc)) := fun w' hb => ⟨below_cell hb (cell_of_row _ _ _ _ _ _ g0.out), below_cell hb (cell_of_row _ _ _ _ _ _ g0.out), below_cell hb (cell_of_row _ _ _ _ _ _ g0.out), below_cell hb (cell_of_row _ _ _ _ _ _ g0.out), below_cell hb (cell_of_row _ _ _ _ _ _ g0.out)⟩
  have BY : Hid (∀ w', Below W1.heap.size W1 w' → w'.cell? ⟨w.heap.size + 1, 0, none⟩ = some (.int .i64 ygen) ∧ w'.cell? ⟨w.heap.size + 1, 1, none⟩ = some (.int .i64 ynext) ∧ w'.cell? ⟨w.heap.size + 1, 2, none⟩ = some (.int .i64 ylog) ∧ w'.cell? ⟨w.heap.size + 1, 3, none⟩ = some (.int .i64 yseq) ∧ w'.cell? ⟨w.heap.size + 1, 4, none⟩ = some (.slice yp yn yc)) := fun w' hb => ⟨below_cell hb (cell_of_row _ _ _ _ _ _ g1.out), below_cell hb (cell_of_row _ _ _ _ _ _ g1.out), below_cell hb (cell_of_row _ _ _ _ _ _ g1.out), below_cell hb (cell_of_row _ _ _ _ _ _ g1.out), below_cell hb (cell_of_row _ _ _ _ _ _ g1.out)⟩
  have UP : Hid (∀ w', Below W1.heap.size W1 w' → Below w.heap.size w w') := fun w' hb => b1.out.trans (hb.mono b1.out.size)
  have XH : Hid (∀ w', Below W1.heap.size W1 w' → VV.held w' ⟨xp, xn, xc, xgen, xnext, xlog, xseq, xes⟩) := fun w' hb => VV.held.below hx (UP.out w' hb)
  have YH : Hid (∀ w', Below W1.heap.size W1 w' → VV.held w' ⟨yp, yn, yc, ygen, ynext, ylog, yseq, yes⟩) := fun w' hb => VV.held.below hy (UP.out w' hb)
  have PK : Hid (∀ w', Below W1.heap.size W1 w' → RSrc intKind w' pa pn pc zs) := fun w' h => hp.below intKind_ok (UP.out w' h)
  have HG : Hid (Gl W1) := hg.below b1.out
  have AW := keep (awake11 W1 HG.out)
  clear hx hy hg hp hpc hJ
  go_enter Tryz.func4, Tryz.ntmps4
  go_wp2_with fail
  refine AW.out.mono ?_
  rintro e w1 ⟨rfl, hb1⟩
  have B1 := keep hb1
  have NE := keep (new_mem 1099511627776 w1 (by omega))
  rw [show ((1099511627776 : Nat) : Int) = 1099511627776 from rfl] at NE
  clear hb1 AW
  go_wp2_with fail
  refine NE.out.mono ?_
  rintro e w2 ⟨b, S, rfl, hm, hsn, hb, hbel⟩
  have I2 : Hid (TwI W1 b 0 w2 ⟨1099511627776, [], 0, none, false⟩) := ⟨⟨S, hm, fun g hg => by
    rcases hg with hg | hg
    · exact Nat.le_trans B1.out.size (hsn g hg)
    · rw [hg]; exact Nat.le_trans B1.out.size hb, B1.out.trans (hbel.mono B1.out.size), HG.out⟩, (fun f hf => by cases hf), rfl, Nat.zero_le _⟩
  clear hm hsn hb hbel NE B1
  obtain ⟨a0, a1, a2, a3, a4⟩ := BX.out w2 I2.out.bel
  obtain ⟨c0, c1, c2, c3, c4⟩ := BY.out w2 I2.out.bel
  by_cases hbx : 100 < xn
  case pos =>
    have h1 : (100 : Int) < (xn : Int) := by omega
    go_wp2
    go_ret
    exact ⟨rfl, UP.out _ I2.out.bel⟩
  have hb1 : ¬ (100 : Int) < (xn : Int) := by omega
  by_cases hby : 100 < yn
  case pos =>
    have h1 : (100 : Int) < (yn : Int) := by omega
    go_wp2
    go_ret
    exact ⟨rfl, UP.out _ I2.out.bel⟩
  have hb2 : ¬ (100 : Int) < (yn : Int) := by omega
  have MI := keep (mine11 ⟨xp, xn, xc, xgen, xnext, xlog, xseq, xes⟩ w2 (XH.out w2 I2.out.bel) (by show xn ≤ _; omega))
  have YN : Hid (yn ≤ 100) := by show _ ≤ _; omega
  obtain ⟨V, hV⟩ : ∃ V, VV.v ⟨xp, xn, xc, xgen, xnext, xlog, xseq, xes⟩ = V := ⟨_, rfl⟩
  obtain ⟨U, hU⟩ : ∃ U, VV.v ⟨yp, yn, yc, ygen, ynext, ylog, yseq, yes⟩ = U := ⟨_, rfl⟩
  have HV := keep hV
  have HU := keep hU
  have VG : Hid (V.gen = xgen) := by show _ = _; rw [← hV]; rfl
  have UG : Hid (U.gen = ygen) := by show _ = _; rw [← hU]; rfl
  rw [hV] at MI
  unfold VV.val at MI
  simp only at MI
  clear hV hU hbx hby
  go_wp2_with fail
  refine MI.out.mono ?_
  rintro e w3 ⟨t, rfl, ht, htv, htn, hb3⟩
  obtain ⟨S3, hD3⟩ := (I2.out.next hb3).disk
  have I3 := keep (I2.out.next hb3)
  have D3 := keep hD3
  have SA := keep (save_own S3 w3 b _ t hD3.mem ht (fun w' hk => HG.out.below (D3.out.gK hk)) (by decide))
  rw [htv] at SA
  obtain ⟨tp, tn, tc, tgen, tnext, tlog, tseq, tes⟩ := t
  unfold VV.val at SA
  simp only at SA ⊢
  clear ht htv htn hb3 hD3 MI a0 a1 a2 a3 a4 c0 c1 c2 c3 c4
  go_wp2_with fail
  refine SA.out.mono ?_
  rintro e w4 ⟨S4, rfl, hO4⟩
  have I4 := keep (I3.out.save D3.out V hO4)
  have OK : Hid ((catSave ⟨1099511627776, [], 0, none, false⟩ V).1 = 0 → V.gen ≠ 0 ∧ Sure (catSave ⟨1099511627776, [], 0, none, false⟩ V).2 V) := fun h => (catSave_ok D3.out.mem.good h).2
  obtain ⟨X, hX⟩ : ∃ X, catSave ⟨1099511627776, [], 0, none, false⟩ V = X := ⟨_, rfl⟩
  rw [hX] at I4 OK ⊢
  obtain ⟨E, D4⟩ := X
  simp only at I4 OK ⊢
  clear hO4 SA hX
  by_cases hE : E = 0
  case neg =>
    have z1 : ((E : Int) == 0) = false := by rw [beq_eq_false_iff_ne]; omega
    clear hE
    go_wp2
    go_ret
    exact ⟨rfl, UP.out _ I4.out.bel⟩
  subst hE
  have V0 := keep (OK.out rfl).1
  have SU := keep (OK.out rfl).2
  clear OK
  obtain ⟨S4', hD4⟩ := I4.out.disk
  have D4' := keep hD4
  have CU : Hid (Calls Tryz.prog 24 #[.pointer (some ⟨b, 0, none⟩), .int .i64 (J : Int)] w4 fun e w' => (∃ z : Int, e = .returned (.int .i64 z)) ∧ TwI W1 b 1 w' (Dk.cut D4 J).2) := by
    refine (cut_mem S4' b D4 J w4 D4'.out.mem (by omega)).mono ?_
    intro e w' hr
    obtain ⟨rfl, hO⟩ := (Own.start D4'.out.mem).raw hr
    obtain ⟨q1, q2, q3⟩ := cut_same D4 J
    exact ⟨⟨_, rfl⟩, I4.out.raw D4'.out hO (fun f hf => I4.out.vn f (by rw [← q1]; exact hf)) q2 (Nat.le_of_eq q3)⟩
  have SU5 := keep (SU.out.same (cut_same D4 J).1)
  clear hD4 SU
  go_wp2_with fail
  refine CU.out.mono ?_
  rintro e w5 ⟨⟨z5, rfl⟩, hI5⟩
  obtain ⟨D5, hD5⟩ : ∃ D5, (Dk.cut D4 J).2 = D5 := ⟨_, rfl⟩
  rw [hD5] at hI5 SU5
  have I5 := keep hI5
  obtain ⟨c0, c1, c2, c3, c4⟩ := BY.out w5 hI5.bel
  have MI2 := keep (mine11 ⟨yp, yn, yc, ygen, ynext, ylog, yseq, yes⟩ w5 (YH.out w5 hI5.bel) (by have := YN.out; show yn ≤ _; omega))
  rw [HU.out] at MI2
  unfold VV.val at MI2
  simp only at MI2
  clear hI5 hD5 CU
  go_wp2_with fail
  refine MI2.out.mono ?_
  rintro e w6 ⟨t, rfl, ht, htv, htn, hb6⟩
  obtain ⟨S6, hD6⟩ := (I5.out.next hb6).disk
  have I6 := keep (I5.out.next hb6)
  have D6 := keep hD6
  have SA := keep (save_own S6 w6 b D5 t hD6.mem ht (fun w' hk => HG.out.below (D6.out.gK hk)) (by have := I6.out.done; omega))
  rw [htv] at SA
  obtain ⟨rp, rn, rc, rgen, rnext, rlog, rseq, res⟩ := t
  unfold VV.val at SA
  simp only at SA ⊢
  clear ht htv htn hb6 hD6 MI2 c0 c1 c2 c3 c4
  go_wp2_with fail
  refine SA.out.mono ?_
  rintro e w7 ⟨S7, rfl, hO7⟩
  have I7 := keep (I6.out.save D6.out U hO7)
  have SV : Hid (V.gen ≠ U.gen → (Sure (catSave D5 U).2 V ∨ Sure (catSave D5 U).2 U ∧ U.gen ≠ 0) ∧ ((catSave D5 U).1 = 0 → Sure (catSave D5 U).2 U ∧ U.gen ≠ 0)) := fun hne => save_two D6.out.mem.good SU5.out hne
  obtain ⟨X, hX⟩ : ∃ X, catSave D5 U = X := ⟨_, rfl⟩
  rw [hX] at I7 SV ⊢
  obtain ⟨E2, D7⟩ := X
  simp only at I7 SV ⊢
  clear hO7 SA hX
  obtain ⟨S7', hD7⟩ := I7.out.disk
  have D7' := keep hD7
  have CR : Hid (Calls Tryz.prog 25 #[.pointer (some ⟨b, 0, none⟩), .slice pa pn pc] w7 fun e w' => e = .returned (.int .i64 0) ∧ TwI W1 b 2 w' (Dk.crash D7 (zs.map up))) := by
    refine (crash_mem S7' b D7 pa pn pc zs w7 D7'.out.mem (fun w' hk => PK.out w' (D7'.out.gK hk)) PL.out).mono ?_
    intro e w' hr
    obtain ⟨rfl, hO⟩ := (Own.start D7'.out.mem).raw hr
    exact ⟨rfl, I7.out.raw D7'.out hO (I7.out.vn.crash _) rfl (Nat.le_refl _)⟩
  clear hD7
  go_wp2_with fail
  refine CR.out.mono ?_
  rintro e w8 ⟨rfl, hI8⟩
  have LI : Hid (Lit (Dk.crash D7 (zs.map up))) := ⟨rfl, rfl⟩
  have SW : Hid (V.gen ≠ U.gen → ∃ Z, (Z = V ∨ Z = U) ∧ (E2 = 0 → Z = U) ∧ Sure (Dk.crash D7 (zs.map up)) Z ∧ Z.gen ≠ 0) := fun hne => by
    obtain ⟨h1, h2⟩ := SV.out hne
    by_cases h0 : E2 = 0
    · exact ⟨U, .inr rfl, fun _ => rfl, (h2 h0).1.crash _, (h2 h0).2⟩
    · rcases h1 with h1 | h1
      · exact ⟨V, .inl rfl, fun e => absurd e h0, h1.crash _, V0.out⟩
      · exact ⟨U, .inr rfl, fun _ => rfl, h1.1.crash _, h1.2⟩
  obtain ⟨D8, hD8⟩ : ∃ D8, Dk.crash D7 (zs.map up) = D8 := ⟨_, rfl⟩
  rw [hD8] at hI8 LI SW
  have I8 := keep hI8
  obtain ⟨S8, h8⟩ := hI8.disk
  have LA := keep (catload_any S8 b D8 w8 h8.mem h8.gW)
  have SM9 := keep (catLoad_small D8)
  have ZZ : Hid (V.gen ≠ U.gen → (catLoad D8).1 = 0 ∧ ((catLoad D8).2 = V ∨ (catLoad D8).2 = U) ∧ (E2 = 0 → (catLoad D8).2 = U) ∧ Sure D8 (catLoad D8).2 ∧ (catLoad D8).2.gen ≠ 0) := fun hne => by
    obtain ⟨Z, h1, h2, h3, h4⟩ := SW.out hne
    rw [h3.load]
    exact ⟨rfl, h1, h2, h3, h4⟩
  obtain ⟨X, hX⟩ : ∃ X, catLoad D8 = X := ⟨_, rfl⟩
  rw [hX] at LA SM9 ZZ
  obtain ⟨E8, Z⟩ := X
  simp only at SM9 ZZ
  unfold LoadA at LA
  simp only at LA
  have H8 := keep h8
  clear hI8 hD8 h8 CR SW hX
  go_wp2_with fail
  refine LA.out.mono ?_
  rintro e w9 ⟨⟨z, rfl, hzf, hzv⟩, hb9⟩
  have ZH := keep hzf.held
  have ZV := keep hzv
  obtain ⟨zp, zn, zc, zgen, znext, zlog, zseq, zes⟩ := z
  have ZN : Hid (zn ≤ 4096) := by
    have h1 : zes.length = zn := ZH.out.len
    have h2 : zes.map (·.m) = Z.tabs := (VV.isV hzv).2.2.2.2
    have h3 := SM9.out
    rw [← h2, List.length_map] at h3
    show _ ≤ _
    omega
  try unfold VV.val
  simp only
  obtain ⟨WA, hWA⟩ : ∃ WA, w9.alloc (.cells #[.int .i64 zgen, .int .i64 znext, .int .i64 zlog, .int .i64 zseq, .slice zp zn zc] 50) = WA := ⟨_, rfl⟩
  have bA : Hid (Below w9.heap.size w9 WA) := by rw [← hWA]; exact (Below.refl _ _).alloc (Nat.le_refl _) _
  have IA := keep (I8.out.next (hb9.trans (bA.out.mono hb9.size)))
  have gA : Hid (WA.heap[w9.heap.size]? = some (.cells #[.int .i64 zgen, .int .i64 znext, .int .i64 zlog, .int .i64 zseq, .slice zp zn zc] 50)) := by rw [← hWA]; exact heap_alloc_new w9 _
  have L8 := keep (hb9.trans (bA.out.mono hb9.size))
  have S89 := keep hb9.size
  have ZF := keep hzf
  have CZ_ : Hid (∀ w', Below WA.heap.size WA w' → w'.cell? ⟨w9.heap.size, 0, none⟩ = some (.int .i64 zgen) ∧ w'.cell? ⟨w9.heap.size, 1, none⟩ = some (.int .i64 znext) ∧ w'.cell? ⟨w9.heap.size, 2, none⟩ = some (.int .i64 zlog) ∧ w'.cell? ⟨w9.heap.size, 3, none⟩ = some (.int .i64 zseq) ∧ w'.cell? ⟨w9.heap.size, 4, none⟩ = some (.slice zp zn zc)) := fun w' hb => ⟨below_cell hb (cell_of_row _ _ _ _ _ _ gA.out), below_cell hb (cell_of_row _ _ _ _ _ _ gA.out), below_cell hb (cell_of_row _ _ _ _ _ _ gA.out), below_cell hb (cell_of_row _ _ _ _ _ _ gA.out), below_cell hb (cell_of_row _ _ _ _ _ _ gA.out)⟩
  have TH : Hid (∀ w', Below WA.heap.size WA w' → Calls Tryz.prog 27 #[.agg #[.int .i64 zgen, .int .i64 znext, .int .i64 zlog, .int .i64 zseq, .slice zp zn zc]] w' fun e w'' => ∃ u : VV, e = .returned u.val ∧ VV.held w'' u ∧ u.v = Z ∧ u.n = zn ∧ Below w'.heap.size w' w'') := fun w' hb => by
    have h := theirs11 ⟨zp, zn, zc, zgen, znext, zlog, zseq, zes⟩ w' (ZH.out.below (bA.out.trans (hb.mono bA.out.size))) (by show zn ≤ _; have := ZN.out; omega)
    rw [ZV.out] at h
    exact h
  have SX : Hid (∀ (u : VV) (w' : World), Below WA.heap.size WA w' → VV.held w' u → u.v = Z → u.n = zn → Calls Tryz.prog 26 #[u.val, .agg #[.int .i64 xgen, .int .i64 xnext, .int .i64 xlog, .int .i64 xseq, .slice xp xn xc]] w' fun e w'' => (∃ r, e = .returned (.bool r) ∧ (Z = V → r = true)) ∧ Below w'.heap.size w' w'') := fun u w' hb hu huv hun => by
    have h := rsame_any u ⟨xp, xn, xc, xgen, xnext, xlog, xseq, xes⟩ w' hu (XH.out w' (IA.out.next hb).bel) (by rw [hun]; have := ZN.out; omega)
    rw [huv, HV.out] at h
    exact h
  have SY : Hid (∀ (u : VV) (w' : World), Below WA.heap.size WA w' → VV.held w' u → u.v = Z → u.n = zn → Calls Tryz.prog 26 #[u.val, .agg #[.int .i64 ygen, .int .i64 ynext, .int .i64 ylog, .int .i64 yseq, .slice yp yn yc]] w' fun e w'' => (∃ r, e = .returned (.bool r) ∧ (Z = U → r = true)) ∧ Below w'.heap.size w' w'') := fun u w' hb hu huv hun => by
    have h := rsame_any u ⟨yp, yn, yc, ygen, ynext, ylog, yseq, yes⟩ w' hu (YH.out w' (IA.out.next hb).bel) (by rw [hun]; have := ZN.out; omega)
    rw [huv, HU.out] at h
    exact h
  have CXA : Hid (∀ w', Below WA.heap.size WA w' → _) := fun w' hb => BX.out w' (IA.out.next hb).bel
  have CYA : Hid (∀ w', Below WA.heap.size WA w' → _) := fun w' hb => BY.out w' (IA.out.next hb).bel
  clear hzf hzv hb9 LA
  go_wp2_with fail
  refine wp_region_held_drew (S := fun w' => Below WA.heap.size WA w') (by kernel_rfl) ((Below.refl _ _).drew) (fun hHeld => ?_)
  refine takeH (i := 0) 69 (v := .agg #[.int .i64 zgen, .int .i64 znext, .int .i64 zlog, .int .i64 zseq, .slice zp zn zc]) rfl rfl (by kernel_rfl) (by kernel_rfl) (by kernel_rfl) (fun _ _ _ h => h) (Or.inl ⟨by rfl, ?_⟩) (by assumption) ?_
  · intro w' hSw'
    obtain ⟨d0, d1, d2, d3, d4⟩ := CZ_.out w' hSw'
    go_simp
  simp only [Act.put, List.setIfInBounds_toArray, List.set_cons_zero, List.set_cons_succ]
  refine takeH (i := 2) 71 (v := .agg #[.int .i64 xgen, .int .i64 xnext, .int .i64 xlog, .int .i64 xseq, .slice xp xn xc]) rfl rfl (by kernel_rfl) (by kernel_rfl) (by kernel_rfl) (fun _ _ _ h => h) (Or.inl ⟨by rfl, ?_⟩) (by assumption) ?_
  · intro w' hSw'
    obtain ⟨d0, d1, d2, d3, d4⟩ := CXA.out w' hSw'
    go_simp
  simp only [Act.put, List.setIfInBounds_toArray, List.set_cons_zero, List.set_cons_succ]
  refine wpAnyH_ready (rs := [1]) (by kernel_rfl) (by simp) ?_
  refine AllReadyH.cons rfl (fun K hK => ?_) AllReadyH.nil
  go_simp
  refine (TH.out _ (Below.refl _ _).drew).mono ?_
  rintro eA w10 ⟨u, rfl, hu, huv, hun, hb10⟩
  have b10 : Hid (Below WA.heap.size WA w10) := ((Below.refl _ _).drew).trans (hb10.mono (Nat.le_refl _))
  have SMU := keep (SX.out u w10 b10.out hu huv hun)
  clear hu huv hun hb10
  go_wp2_with fail
  refine hK.out _ _ (b10.out) (fun hH1 => ?_)
  clear hK K
  refine wpAnyH_ready (rs := [3]) (by kernel_rfl) (by simp) ?_
  refine AllReadyH.cons rfl (fun K hK => ?_) AllReadyH.nil
  go_simp
  refine (SMU.out).mono ?_
  rintro eB w11 ⟨⟨r1, rfl, hr1⟩, hb11⟩
  have R1 := keep hr1
  have b11 : Hid (Below WA.heap.size WA w11) := b10.out.trans (hb11.mono b10.out.size)
  clear hb11 hr1
  go_wp2_with fail
  refine hK.out _ _ (b11.out) (fun hH2 => ?_)
  clear hK K
  refine takeH (i := 4) 15 (v := .bool r1) rfl rfl (by kernel_rfl) (by kernel_rfl) (by kernel_rfl) (fun _ _ _ h => h) (Or.inl ⟨by rfl, ?_⟩) (by assumption) ?_
  · intro w' hSw'
    go_simp
  simp only [Act.put, List.setIfInBounds_toArray, List.set_cons_zero, List.set_cons_succ]
  refine wpAnyH_done (by kernel_rfl) ?_ _
  clear SMU
  go_wp2_with fail
  refine wp_region_held_drew (S := fun w' => Below WA.heap.size WA w') (by kernel_rfl) (b11.out.drew) (fun hHeld => ?_)
  refine takeH (i := 0) 73 (v := .agg #[.int .i64 zgen, .int .i64 znext, .int .i64 zlog, .int .i64 zseq, .slice zp zn zc]) rfl rfl (by kernel_rfl) (by kernel_rfl) (by kernel_rfl) (fun _ _ _ h => h) (Or.inl ⟨by rfl, ?_⟩) (by assumption) ?_
  · intro w' hSw'
    obtain ⟨d0, d1, d2, d3, d4⟩ := CZ_.out w' hSw'
    go_simp
  simp only [Act.put, List.setIfInBounds_toArray, List.set_cons_zero, List.set_cons_succ]
  refine takeH (i := 2) 75 (v := .agg #[.int .i64 ygen, .int .i64 ynext, .int .i64 ylog, .int .i64 yseq, .slice yp yn yc]) rfl rfl (by kernel_rfl) (by kernel_rfl) (by kernel_rfl) (fun _ _ _ h => h) (Or.inl ⟨by rfl, ?_⟩) (by assumption) ?_
  · intro w' hSw'
    obtain ⟨d0, d1, d2, d3, d4⟩ := CYA.out w' hSw'
    go_simp
  simp only [Act.put, List.setIfInBounds_toArray, List.set_cons_zero, List.set_cons_succ]
  refine wpAnyH_ready (rs := [1]) (by kernel_rfl) (by simp) ?_
  refine AllReadyH.cons rfl (fun K hK => ?_) AllReadyH.nil
  go_simp
  refine (TH.out _ b11.out.drew).mono ?_
  rintro eC w12 ⟨u2, rfl, hu, huv, hun, hb12⟩
  have b12 : Hid (Below WA.heap.size WA w12) := b11.out.drew.trans (hb12.mono b11.out.size)
  have SMU := keep (SY.out u2 w12 b12.out hu huv hun)
  clear hu huv hun hb12
  go_wp2_with fail
  refine hK.out _ _ (b12.out) (fun hH3 => ?_)
  clear hK K
  refine wpAnyH_ready (rs := [3]) (by kernel_rfl) (by simp) ?_
  refine AllReadyH.cons rfl (fun K hK => ?_) AllReadyH.nil
  go_simp
  refine (SMU.out).mono ?_
  rintro eD w13 ⟨⟨r2, rfl, hr2⟩, hb13⟩
  have R2 := keep hr2
  have b13 : Hid (Below WA.heap.size WA w13) := b12.out.trans (hb13.mono b12.out.size)
  clear hb13 hr2
  go_wp2_with fail
  refine hK.out _ _ (b13.out) (fun hH4 => ?_)
  clear hK K
  refine takeH (i := 4) 16 (v := .bool r2) rfl rfl (by kernel_rfl) (by kernel_rfl) (by kernel_rfl) (fun _ _ _ h => h) (Or.inl ⟨by rfl, ?_⟩) (by assumption) ?_
  · intro w' hSw'
    go_simp
  simp only [Act.put, List.setIfInBounds_toArray, List.set_cons_zero, List.set_cons_succ]
  refine wpAnyH_done (by kernel_rfl) ?_ _
  clear SMU
  obtain ⟨a0, a1, a2, a3, a4⟩ := CXA.out w13 b13.out
  obtain ⟨c0, c1, c2, c3, c4⟩ := CYA.out w13 b13.out
  by_cases hge : xgen = ygen
  case pos =>
    subst hge
    go_wp2
    go_ret
    exact ⟨rfl, UP.out _ (IA.out.next b13.out).bel⟩
  have hge2 : (xgen == ygen) = false := beq_eq_false_iff_ne.2 hge
  obtain ⟨k1, k2, k3, k4, k5⟩ := ZZ.out (by rw [VG.out, UG.out]; exact hge)
  subst k1
  have K2 := keep k2
  have K3 := keep k3
  have K4 := keep k4
  have K5 := keep k5
  clear k2 k3 k4 k5 hge ZZ
  obtain ⟨e0, e1, e2, e3, e4⟩ := CZ_.out w13 b13.out
  have L13 := keep (L8.out.trans (b13.out.mono L8.out.size))
  have D9 := keep (H8.out.next L13.out)
  have IB := keep (IA.out.next b13.out)
  have g13 := keep (below_row gA.out b13.out)
  have CT := keep (clean_two D9.out.mem.good LI.out IB.out.vn K4.out K5.out)
  have OLD : Hid (∀ g, Go.Proofs.YthnebhddakfadaaGreatDoor.mine S8 b g → g < w8.heap.size) := fun g hg => by
    have h1 := H8.out.mem.lt
    rcases hg with hg | hg
    · exact h1.1 g hg
    · rw [hg]; exact h1.2.1
  have CL : Hid (Calls Tryz.prog 21 #[.pointer (some ⟨b, 0, none⟩), .agg #[.int .i64 zgen, .int .i64 znext, .int .i64 zlog, .int .i64 zseq, .slice zp zn zc]] w13 fun e w' => ∃ S', e = .returned (.int .i64 0) ∧ Own (Go.Proofs.YthnebhddakfadaaGreatDoor.mine S8 b) w13 S' w' b (cleanOf D8 Z).2 ∧ B5 w13 w') := by
    have h := clean_ownK S8 w13 b D8 ⟨zp, zn, zc, zgen, znext, zlog, zseq, zes⟩ D9.out.mem (ZH.out.below (bA.out.trans (b13.out.mono bA.out.size))) (fun w' hk => HG.out.below (D9.out.gK hk)) (by have := IB.out.done; omega)
    rw [ZV.out, CT.out.1] at h
    exact h
  obtain ⟨Dc, hDc⟩ : ∃ Dc, (cleanOf D8 Z).2 = Dc := ⟨_, rfl⟩
  rw [hDc] at CT CL
  have SL := keep CT.out.2.1.load
  have TWO := keep CT.out.2.2
  have Z13 : Hid (Firm w8.heap.size w13 ⟨zp, zn, zc, zgen, znext, zlog, zseq, zes⟩) := ZF.out.below (bA.out.trans (b13.out.mono bA.out.size))
  clear hDc
  cases r2 with
  | false =>
    have hE2 : ¬ E2 = 0 := fun e => by have := R2.out (K3.out e); cases this
    have z2 : ((E2 : Int) == 0) = false := by rw [beq_eq_false_iff_ne]; omega
    have t1 : r1 = true := by
      rcases K2.out with h | h
      · exact R1.out h
      · have := R2.out h; cases this
    subst t1
    clear hE2
    go_wp2_with fail
    refine CL.out.mono ?_
    rintro e w14 ⟨S14, rfl, hO14, hf14⟩
    have D14 := keep (D9.out.then hO14)
    have Z14 : Hid (Firm w8.heap.size w14 ⟨zp, zn, zc, zgen, znext, zlog, zseq, zes⟩) := Z13.out.clean (fun g h1 h2 => hO14.bel.block g h2 (fun e => by have := OLD.out g e; omega)) hf14
    have q14 := keep ((hO14.bel.block _ (Array.getElem?_eq_some_iff.1 g13.out).1 (fun e => by have := OLD.out _ e; have := S89.out; omega)).trans g13.out)
    have LB := keep (catload_any S14 b Dc w14 D14.out.mem D14.out.gW)
    rw [SL.out] at LB
    unfold LoadA at LB
    simp only at LB
    clear hO14 hf14
    go_wp2_with fail
    refine LB.out.mono ?_
    rintro e w15 ⟨⟨t, rfl, htf, htv⟩, hb15⟩
    have QH := keep htf.held
    have QV := keep htv
    obtain ⟨qp, qn, qc, qgen, qnext, qlog, qseq, qes⟩ := t
    have QN : Hid (qn ≤ 4096) := by
      have h1 : qes.length = qn := QH.out.len
      have h2 : qes.map (·.m) = Z.tabs := (VV.isV htv).2.2.2.2
      have h3 := SM9.out
      rw [← h2, List.length_map] at h3
      show _ ≤ _
      omega
    try unfold VV.val
    simp only
    obtain ⟨WB, hWB⟩ : ∃ WB, w15.alloc (.cells #[.int .i64 qgen, .int .i64 qnext, .int .i64 qlog, .int .i64 qseq, .slice qp qn qc] 50) = WB := ⟨_, rfl⟩
    have bB : Hid (Below w15.heap.size w15 WB) := by rw [← hWB]; exact (Below.refl _ _).alloc (Nat.le_refl _) _
    have L15 := keep (hb15.trans (bB.out.mono hb15.size))
    have D15 := keep (D14.out.next L15.out)
    have gB : Hid (WB.heap[w15.heap.size]? = some (.cells #[.int .i64 qgen, .int .i64 qnext, .int .i64 qlog, .int .i64 qseq, .slice qp qn qc] 50)) := by rw [← hWB]; exact heap_alloc_new w15 _
    have q15 := keep (below_row q14.out L15.out)
    have CQ_ : Hid (∀ w', Below WB.heap.size WB w' → w'.cell? ⟨w15.heap.size, 0, none⟩ = some (.int .i64 qgen) ∧ w'.cell? ⟨w15.heap.size, 1, none⟩ = some (.int .i64 qnext) ∧ w'.cell? ⟨w15.heap.size, 2, none⟩ = some (.int .i64 qlog) ∧ w'.cell? ⟨w15.heap.size, 3, none⟩ = some (.int .i64 qseq) ∧ w'.cell? ⟨w15.heap.size, 4, none⟩ = some (.slice qp qn qc)) := fun w' hb => ⟨below_cell hb (cell_of_row _ _ _ _ _ _ gB.out), below_cell hb (cell_of_row _ _ _ _ _ _ gB.out), below_cell hb (cell_of_row _ _ _ _ _ _ gB.out), below_cell hb (cell_of_row _ _ _ _ _ _ gB.out), below_cell hb (cell_of_row _ _ _ _ _ _ gB.out)⟩
    have CZ2 : Hid (∀ w', Below WB.heap.size WB w' → w'.cell? ⟨w9.heap.size, 0, none⟩ = some (.int .i64 zgen) ∧ w'.cell? ⟨w9.heap.size, 1, none⟩ = some (.int .i64 znext) ∧ w'.cell? ⟨w9.heap.size, 2, none⟩ = some (.int .i64 zlog) ∧ w'.cell? ⟨w9.heap.size, 3, none⟩ = some (.int .i64 zseq) ∧ w'.cell? ⟨w9.heap.size, 4, none⟩ = some (.slice zp zn zc)) := fun w' hb => ⟨below_cell hb (cell_of_row _ _ _ _ _ _ q15.out), below_cell hb (cell_of_row _ _ _ _ _ _ q15.out), below_cell hb (cell_of_row _ _ _ _ _ _ q15.out), below_cell hb (cell_of_row _ _ _ _ _ _ q15.out), below_cell hb (cell_of_row _ _ _ _ _ _ q15.out)⟩
    have THQ : Hid (∀ w', Below WB.heap.size WB w' → Calls Tryz.prog 27 #[.agg #[.int .i64 qgen, .int .i64 qnext, .int .i64 qlog, .int .i64 qseq, .slice qp qn qc]] w' fun e w'' => ∃ u : VV, e = .returned u.val ∧ VV.held w'' u ∧ u.v = Z ∧ u.n = qn ∧ Below w'.heap.size w' w'') := fun w' hb => by
      have h := theirs11 ⟨qp, qn, qc, qgen, qnext, qlog, qseq, qes⟩ w' (QH.out.below (bB.out.trans (hb.mono bB.out.size))) (by show qn ≤ _; have := QN.out; omega)
      rw [QV.out] at h
      exact h
    have THZ : Hid (∀ w', Below WB.heap.size WB w' → Calls Tryz.prog 27 #[.agg #[.int .i64 zgen, .int .i64 znext, .int .i64 zlog, .int .i64 zseq, .slice zp zn zc]] w' fun e w'' => ∃ u : VV, e = .returned u.val ∧ VV.held w'' u ∧ u.v = Z ∧ u.n = zn ∧ Below w'.heap.size w' w'') := fun w' hb => by
      have h := theirs11 ⟨zp, zn, zc, zgen, znext, zlog, zseq, zes⟩ w' (Z14.out.held.below (L15.out.trans (hb.mono L15.out.size))) (by show zn ≤ _; have := ZN.out; omega)
      rw [ZV.out] at h
      exact h
    have NM : Hid (∀ w', Below WB.heap.size WB w' → Calls Tryz.prog 28 #[.pointer (some ⟨b, 0, none⟩)] w' fun e w'' => (∃ ao c, e = .returned (.slice ao 2 c)) ∧ Below w'.heap.size w' w'') := fun w' hb => by
      obtain ⟨m, l, left, hm⟩ := (D15.out.next hb).mem
      refine (names_mem S14 b m l left _ w' hm).mono ?_
      rintro e w'' ⟨ao, cc, rfl, _, _, hb2⟩
      rw [TWO.out]
      exact ⟨⟨ao, cc, rfl⟩, hb2⟩
    clear htf htv hb15 LB
    go_wp2_with fail
    refine wp_region_held_drew (S := fun w' => Below WB.heap.size WB w') (by kernel_rfl) ((Below.refl _ _).drew) (fun hHeld => ?_)
    refine takeH (i := 0) 108 (v := .int .i64 0) rfl rfl (by kernel_rfl) (by kernel_rfl) (by kernel_rfl) (fun _ _ _ h => h) (Or.inl ⟨by rfl, ?_⟩) (by assumption) ?_
    · intro w' hSw'
      go_simp
    simp only [Act.put, List.setIfInBounds_toArray, List.set_cons_zero, List.set_cons_succ]
    refine takeH (i := 1) 109 (v := .bool true) rfl rfl (by kernel_rfl) (by kernel_rfl) (by kernel_rfl) (fun _ _ _ h => h) (Or.inl ⟨by rfl, ?_⟩) (by assumption) ?_
    · intro w' hSw'
      go_simp
    simp only [Act.put, List.setIfInBounds_toArray, List.set_cons_zero, List.set_cons_succ]
    refine takeH (i := 2) 110 (v := .bool true) rfl rfl (by kernel_rfl) (by kernel_rfl) (by kernel_rfl) (fun _ _ _ h => h) (Or.inl ⟨by rfl, ?_⟩) (by assumption) ?_
    · intro w' hSw'
      go_simp
    simp only [Act.put, List.setIfInBounds_toArray, List.set_cons_zero, List.set_cons_succ]
    refine takeH (i := 3) 111 (v := .int .i64 0) rfl rfl (by kernel_rfl) (by kernel_rfl) (by kernel_rfl) (fun _ _ _ h => h) (Or.inl ⟨by rfl, ?_⟩) (by assumption) ?_
    · intro w' hSw'
      go_simp
    simp only [Act.put, List.setIfInBounds_toArray, List.set_cons_zero, List.set_cons_succ]
    refine takeH (i := 4) 112 (v := .bool true) rfl rfl (by kernel_rfl) (by kernel_rfl) (by kernel_rfl) (fun _ _ _ h => h) (Or.inl ⟨by rfl, ?_⟩) (by assumption) ?_
    · intro w' hSw'
      go_simp
    simp only [Act.put, List.setIfInBounds_toArray, List.set_cons_zero, List.set_cons_succ]
    refine takeH (i := 5) 113 (v := .bool true) rfl rfl (by kernel_rfl) (by kernel_rfl) (by kernel_rfl) (fun _ _ _ h => h) (Or.inl ⟨by rfl, ?_⟩) (by assumption) ?_
    · intro w' hSw'
      go_simp
    simp only [Act.put, List.setIfInBounds_toArray, List.set_cons_zero, List.set_cons_succ]
    refine takeH (i := 6) 114 (v := .bool true) rfl rfl (by kernel_rfl) (by kernel_rfl) (by kernel_rfl) (fun _ _ _ h => h) (Or.inl ⟨by rfl, ?_⟩) (by assumption) ?_
    · intro w' hSw'
      go_simp
    simp only [Act.put, List.setIfInBounds_toArray, List.set_cons_zero, List.set_cons_succ]
    refine takeH (i := 7) 115 (v := .agg #[.int .i64 qgen, .int .i64 qnext, .int .i64 qlog, .int .i64 qseq, .slice qp qn qc]) rfl rfl (by kernel_rfl) (by kernel_rfl) (by kernel_rfl) (fun _ _ _ h => h) (Or.inl ⟨by rfl, ?_⟩) (by assumption) ?_
    · intro w' hSw'
      obtain ⟨d0, d1, d2, d3, d4⟩ := CQ_.out w' hSw'
      go_simp
    simp only [Act.put, List.setIfInBounds_toArray, List.set_cons_zero, List.set_cons_succ]
    refine takeH (i := 9) 117 (v := .agg #[.int .i64 zgen, .int .i64 znext, .int .i64 zlog, .int .i64 zseq, .slice zp zn zc]) rfl rfl (by kernel_rfl) (by kernel_rfl) (by kernel_rfl) (fun _ _ _ h => h) (Or.inl ⟨by rfl, ?_⟩) (by assumption) ?_
    · intro w' hSw'
      obtain ⟨d0, d1, d2, d3, d4⟩ := CZ2.out w' hSw'
      go_simp
    simp only [Act.put, List.setIfInBounds_toArray, List.set_cons_zero, List.set_cons_succ]
    refine wpAnyH_ready (rs := [8]) (by kernel_rfl) (by simp) ?_
    refine AllReadyH.cons rfl (fun K hK => ?_) AllReadyH.nil
    go_simp
    refine (THQ.out _ (Below.refl _ _).drew).mono ?_
    rintro eE w16 ⟨u3, rfl, hu, huv, hun, hb16⟩
    have b16 : Hid (Below WB.heap.size WB w16) := ((Below.refl _ _).drew).trans (hb16.mono (Nat.le_refl _))
    have U3H := keep hu
    have U3V := keep huv
    have U3N := keep hun
    clear hu huv hun hb16
    go_wp2_with fail
    refine hK.out _ _ (b16.out) (fun hH5 => ?_)
    clear hK K
    refine wpAnyH_ready (rs := [10]) (by kernel_rfl) (by simp) ?_
    refine AllReadyH.cons rfl (fun K hK => ?_) AllReadyH.nil
    go_simp
    refine (THZ.out _ b16.out).mono ?_
    rintro eF w17 ⟨u4, rfl, hu, huv, hun, hb17⟩
    have b17 : Hid (Below WB.heap.size WB w17) := b16.out.trans (hb17.mono b16.out.size)
    have SMU := keep (rsame_yes u3 u4 w17 (U3H.out.below hb17) hu (U3V.out.trans huv.symm) (by rw [U3N.out]; have := QN.out; omega))
    clear hu huv hun hb17
    go_wp2_with fail
    refine hK.out _ _ (b17.out) (fun hH6 => ?_)
    clear hK K
    refine wpAnyH_ready (rs := [11]) (by kernel_rfl) (by simp) ?_
    refine AllReadyH.cons rfl (fun K hK => ?_) AllReadyH.nil
    go_simp
    refine (SMU.out).mono ?_
    rintro eG w18 ⟨rfl, hb18⟩
    have b18 : Hid (Below WB.heap.size WB w18) := b17.out.trans (hb18.mono b17.out.size)
    clear hb18
    go_wp2_with fail
    refine hK.out _ _ (b18.out) (fun hH7 => ?_)
    clear hK K
    refine takeH (i := 12) 120 (v := .bool true) rfl rfl (by kernel_rfl) (by kernel_rfl) (by kernel_rfl) (fun _ _ _ h => h) (Or.inl ⟨by rfl, ?_⟩) (by assumption) ?_
    · intro w' hSw'
      go_simp
    simp only [Act.put, List.setIfInBounds_toArray, List.set_cons_zero, List.set_cons_succ]
    refine takeH (i := 13) 121 (v := .bool true) rfl rfl (by kernel_rfl) (by kernel_rfl) (by kernel_rfl) (fun _ _ _ h => h) (Or.inl ⟨by rfl, ?_⟩) (by assumption) ?_
    · intro w' hSw'
      go_simp
    simp only [Act.put, List.setIfInBounds_toArray, List.set_cons_zero, List.set_cons_succ]
    refine takeH (i := 14) 122 (v := .pointer (some ⟨b, 0, none⟩)) rfl rfl (by kernel_rfl) (by kernel_rfl) (by kernel_rfl) (fun _ _ _ h => h) (Or.inl ⟨by rfl, ?_⟩) (by assumption) ?_
    · intro w' hSw'
      go_simp
    simp only [Act.put, List.setIfInBounds_toArray, List.set_cons_zero, List.set_cons_succ]
    refine wpAnyH_ready (rs := [15]) (by kernel_rfl) (by simp) ?_
    refine AllReadyH.cons rfl (fun K hK => ?_) AllReadyH.nil
    go_simp
    refine (NM.out _ b18.out).mono ?_
    rintro eH w19 ⟨⟨ao9, c9, rfl⟩, hb19⟩
    have b19 : Hid (Below WB.heap.size WB w19) := b18.out.trans (hb19.mono b18.out.size)
    clear hb19
    go_wp2_with fail
    refine hK.out _ _ (b19.out) (fun hH8 => ?_)
    clear hK K
    refine takeH (i := 16) 124 (v := .int .i64 2) rfl rfl (by kernel_rfl) (by kernel_rfl) (by kernel_rfl) (fun _ _ _ h => h) (Or.inl ⟨by rfl, ?_⟩) (by assumption) ?_
    · intro w' hSw'
      go_simp
    simp only [Act.put, List.setIfInBounds_toArray, List.set_cons_zero, List.set_cons_succ]
    refine takeH (i := 17) 125 (v := .bool true) rfl rfl (by kernel_rfl) (by kernel_rfl) (by kernel_rfl) (fun _ _ _ h => h) (Or.inl ⟨by rfl, ?_⟩) (by assumption) ?_
    · intro w' hSw'
      go_simp
    simp only [Act.put, List.setIfInBounds_toArray, List.set_cons_zero, List.set_cons_succ]
    refine takeH (i := 18) 126 (v := .bool true) rfl rfl (by kernel_rfl) (by kernel_rfl) (by kernel_rfl) (fun _ _ _ h => h) (Or.inl ⟨by rfl, ?_⟩) (by assumption) ?_
    · intro w' hSw'
      go_simp
    simp only [Act.put, List.setIfInBounds_toArray, List.set_cons_zero, List.set_cons_succ]
    refine takeH (i := 19) 8 (v := .bool true) rfl rfl (by kernel_rfl) (by kernel_rfl) (by kernel_rfl) (fun _ _ _ h => h) (Or.inl ⟨by rfl, ?_⟩) (by assumption) ?_
    · intro w' hSw'
      go_simp
    simp only [Act.put, List.setIfInBounds_toArray, List.set_cons_zero, List.set_cons_succ]
    refine wpAnyH_done (by kernel_rfl) ?_ _
    have D16 := keep (D15.out.next b19.out)
    go_wp2
    go_ret
    exact ⟨rfl, UP.out _ D16.out.bel⟩
  | true =>
    by_cases hE2 : E2 = 0
    case pos =>
      subst hE2
      cases r1 with
      | false =>
        go_wp2_with fail
        refine CL.out.mono ?_
        rintro e w14 ⟨S14, rfl, hO14, hf14⟩
        have D14 := keep (D9.out.then hO14)
        have Z14 : Hid (Firm w8.heap.size w14 ⟨zp, zn, zc, zgen, znext, zlog, zseq, zes⟩) := Z13.out.clean (fun g h1 h2 => hO14.bel.block g h2 (fun e => by have := OLD.out g e; omega)) hf14
        have q14 := keep ((hO14.bel.block _ (Array.getElem?_eq_some_iff.1 g13.out).1 (fun e => by have := OLD.out _ e; have := S89.out; omega)).trans g13.out)
        have LB := keep (catload_any S14 b Dc w14 D14.out.mem D14.out.gW)
        rw [SL.out] at LB
        unfold LoadA at LB
        simp only at LB
        clear hO14 hf14
        go_wp2_with fail
        refine LB.out.mono ?_
        rintro e w15 ⟨⟨t, rfl, htf, htv⟩, hb15⟩
        have QH := keep htf.held
        have QV := keep htv
        obtain ⟨qp, qn, qc, qgen, qnext, qlog, qseq, qes⟩ := t
        have QN : Hid (qn ≤ 4096) := by
          have h1 : qes.length = qn := QH.out.len
          have h2 : qes.map (·.m) = Z.tabs := (VV.isV htv).2.2.2.2
          have h3 := SM9.out
          rw [← h2, List.length_map] at h3
          show _ ≤ _
          omega
        try unfold VV.val
        simp only
        obtain ⟨WB, hWB⟩ : ∃ WB, w15.alloc (.cells #[.int .i64 qgen, .int .i64 qnext, .int .i64 qlog, .int .i64 qseq, .slice qp qn qc] 50) = WB := ⟨_, rfl⟩
        have bB : Hid (Below w15.heap.size w15 WB) := by rw [← hWB]; exact (Below.refl _ _).alloc (Nat.le_refl _) _
        have L15 := keep (hb15.trans (bB.out.mono hb15.size))
        have D15 := keep (D14.out.next L15.out)
        have gB : Hid (WB.heap[w15.heap.size]? = some (.cells #[.int .i64 qgen, .int .i64 qnext, .int .i64 qlog, .int .i64 qseq, .slice qp qn qc] 50)) := by rw [← hWB]; exact heap_alloc_new w15 _
        have q15 := keep (below_row q14.out L15.out)
        have CQ_ : Hid (∀ w', Below WB.heap.size WB w' → w'.cell? ⟨w15.heap.size, 0, none⟩ = some (.int .i64 qgen) ∧ w'.cell? ⟨w15.heap.size, 1, none⟩ = some (.int .i64 qnext) ∧ w'.cell? ⟨w15.heap.size, 2, none⟩ = some (.int .i64 qlog) ∧ w'.cell? ⟨w15.heap.size, 3, none⟩ = some (.int .i64 qseq) ∧ w'.cell? ⟨w15.heap.size, 4, none⟩ = some (.slice qp qn qc)) := fun w' hb => ⟨below_cell hb (cell_of_row _ _ _ _ _ _ gB.out), below_cell hb (cell_of_row _ _ _ _ _ _ gB.out), below_cell hb (cell_of_row _ _ _ _ _ _ gB.out), below_cell hb (cell_of_row _ _ _ _ _ _ gB.out), below_cell hb (cell_of_row _ _ _ _ _ _ gB.out)⟩
        have CZ2 : Hid (∀ w', Below WB.heap.size WB w' → w'.cell? ⟨w9.heap.size, 0, none⟩ = some (.int .i64 zgen) ∧ w'.cell? ⟨w9.heap.size, 1, none⟩ = some (.int .i64 znext) ∧ w'.cell? ⟨w9.heap.size, 2, none⟩ = some (.int .i64 zlog) ∧ w'.cell? ⟨w9.heap.size, 3, none⟩ = some (.int .i64 zseq) ∧ w'.cell? ⟨w9.heap.size, 4, none⟩ = some (.slice zp zn zc)) := fun w' hb => ⟨below_cell hb (cell_of_row _ _ _ _ _ _ q15.out), below_cell hb (cell_of_row _ _ _ _ _ _ q15.out), below_cell hb (cell_of_row _ _ _ _ _ _ q15.out), below_cell hb (cell_of_row _ _ _ _ _ _ q15.out), below_cell hb (cell_of_row _ _ _ _ _ _ q15.out)⟩
        have THQ : Hid (∀ w', Below WB.heap.size WB w' → Calls Tryz.prog 27 #[.agg #[.int .i64 qgen, .int .i64 qnext, .int .i64 qlog, .int .i64 qseq, .slice qp qn qc]] w' fun e w'' => ∃ u : VV, e = .returned u.val ∧ VV.held w'' u ∧ u.v = Z ∧ u.n = qn ∧ Below w'.heap.size w' w'') := fun w' hb => by
          have h := theirs11 ⟨qp, qn, qc, qgen, qnext, qlog, qseq, qes⟩ w' (QH.out.below (bB.out.trans (hb.mono bB.out.size))) (by show qn ≤ _; have := QN.out; omega)
          rw [QV.out] at h
          exact h
        have THZ : Hid (∀ w', Below WB.heap.size WB w' → Calls Tryz.prog 27 #[.agg #[.int .i64 zgen, .int .i64 znext, .int .i64 zlog, .int .i64 zseq, .slice zp zn zc]] w' fun e w'' => ∃ u : VV, e = .returned u.val ∧ VV.held w'' u ∧ u.v = Z ∧ u.n = zn ∧ Below w'.heap.size w' w'') := fun w' hb => by
          have h := theirs11 ⟨zp, zn, zc, zgen, znext, zlog, zseq, zes⟩ w' (Z14.out.held.below (L15.out.trans (hb.mono L15.out.size))) (by show zn ≤ _; have := ZN.out; omega)
          rw [ZV.out] at h
          exact h
        have NM : Hid (∀ w', Below WB.heap.size WB w' → Calls Tryz.prog 28 #[.pointer (some ⟨b, 0, none⟩)] w' fun e w'' => (∃ ao c, e = .returned (.slice ao 2 c)) ∧ Below w'.heap.size w' w'') := fun w' hb => by
          obtain ⟨m, l, left, hm⟩ := (D15.out.next hb).mem
          refine (names_mem S14 b m l left _ w' hm).mono ?_
          rintro e w'' ⟨ao, cc, rfl, _, _, hb2⟩
          rw [TWO.out]
          exact ⟨⟨ao, cc, rfl⟩, hb2⟩
        clear htf htv hb15 LB
        go_wp2_with fail
        refine wp_region_held_drew (S := fun w' => Below WB.heap.size WB w') (by kernel_rfl) ((Below.refl _ _).drew) (fun hHeld => ?_)
        refine takeH (i := 0) 108 (v := .int .i64 0) rfl rfl (by kernel_rfl) (by kernel_rfl) (by kernel_rfl) (fun _ _ _ h => h) (Or.inl ⟨by rfl, ?_⟩) (by assumption) ?_
        · intro w' hSw'
          go_simp
        simp only [Act.put, List.setIfInBounds_toArray, List.set_cons_zero, List.set_cons_succ]
        refine takeH (i := 1) 109 (v := .bool true) rfl rfl (by kernel_rfl) (by kernel_rfl) (by kernel_rfl) (fun _ _ _ h => h) (Or.inl ⟨by rfl, ?_⟩) (by assumption) ?_
        · intro w' hSw'
          go_simp
        simp only [Act.put, List.setIfInBounds_toArray, List.set_cons_zero, List.set_cons_succ]
        refine takeH (i := 2) 110 (v := .bool true) rfl rfl (by kernel_rfl) (by kernel_rfl) (by kernel_rfl) (fun _ _ _ h => h) (Or.inl ⟨by rfl, ?_⟩) (by assumption) ?_
        · intro w' hSw'
          go_simp
        simp only [Act.put, List.setIfInBounds_toArray, List.set_cons_zero, List.set_cons_succ]
        refine takeH (i := 3) 111 (v := .int .i64 0) rfl rfl (by kernel_rfl) (by kernel_rfl) (by kernel_rfl) (fun _ _ _ h => h) (Or.inl ⟨by rfl, ?_⟩) (by assumption) ?_
        · intro w' hSw'
          go_simp
        simp only [Act.put, List.setIfInBounds_toArray, List.set_cons_zero, List.set_cons_succ]
        refine takeH (i := 4) 112 (v := .bool true) rfl rfl (by kernel_rfl) (by kernel_rfl) (by kernel_rfl) (fun _ _ _ h => h) (Or.inl ⟨by rfl, ?_⟩) (by assumption) ?_
        · intro w' hSw'
          go_simp
        simp only [Act.put, List.setIfInBounds_toArray, List.set_cons_zero, List.set_cons_succ]
        refine takeH (i := 5) 113 (v := .bool true) rfl rfl (by kernel_rfl) (by kernel_rfl) (by kernel_rfl) (fun _ _ _ h => h) (Or.inl ⟨by rfl, ?_⟩) (by assumption) ?_
        · intro w' hSw'
          go_simp
        simp only [Act.put, List.setIfInBounds_toArray, List.set_cons_zero, List.set_cons_succ]
        refine takeH (i := 6) 114 (v := .bool true) rfl rfl (by kernel_rfl) (by kernel_rfl) (by kernel_rfl) (fun _ _ _ h => h) (Or.inl ⟨by rfl, ?_⟩) (by assumption) ?_
        · intro w' hSw'
          go_simp
        simp only [Act.put, List.setIfInBounds_toArray, List.set_cons_zero, List.set_cons_succ]
        refine takeH (i := 7) 115 (v := .agg #[.int .i64 qgen, .int .i64 qnext, .int .i64 qlog, .int .i64 qseq, .slice qp qn qc]) rfl rfl (by kernel_rfl) (by kernel_rfl) (by kernel_rfl) (fun _ _ _ h => h) (Or.inl ⟨by rfl, ?_⟩) (by assumption) ?_
        · intro w' hSw'
          obtain ⟨d0, d1, d2, d3, d4⟩ := CQ_.out w' hSw'
          go_simp
        simp only [Act.put, List.setIfInBounds_toArray, List.set_cons_zero, List.set_cons_succ]
        refine takeH (i := 9) 117 (v := .agg #[.int .i64 zgen, .int .i64 znext, .int .i64 zlog, .int .i64 zseq, .slice zp zn zc]) rfl rfl (by kernel_rfl) (by kernel_rfl) (by kernel_rfl) (fun _ _ _ h => h) (Or.inl ⟨by rfl, ?_⟩) (by assumption) ?_
        · intro w' hSw'
          obtain ⟨d0, d1, d2, d3, d4⟩ := CZ2.out w' hSw'
          go_simp
        simp only [Act.put, List.setIfInBounds_toArray, List.set_cons_zero, List.set_cons_succ]
        refine wpAnyH_ready (rs := [8]) (by kernel_rfl) (by simp) ?_
        refine AllReadyH.cons rfl (fun K hK => ?_) AllReadyH.nil
        go_simp
        refine (THQ.out _ (Below.refl _ _).drew).mono ?_
        rintro eE w16 ⟨u3, rfl, hu, huv, hun, hb16⟩
        have b16 : Hid (Below WB.heap.size WB w16) := ((Below.refl _ _).drew).trans (hb16.mono (Nat.le_refl _))
        have U3H := keep hu
        have U3V := keep huv
        have U3N := keep hun
        clear hu huv hun hb16
        go_wp2_with fail
        refine hK.out _ _ (b16.out) (fun hH5 => ?_)
        clear hK K
        refine wpAnyH_ready (rs := [10]) (by kernel_rfl) (by simp) ?_
        refine AllReadyH.cons rfl (fun K hK => ?_) AllReadyH.nil
        go_simp
        refine (THZ.out _ b16.out).mono ?_
        rintro eF w17 ⟨u4, rfl, hu, huv, hun, hb17⟩
        have b17 : Hid (Below WB.heap.size WB w17) := b16.out.trans (hb17.mono b16.out.size)
        have SMU := keep (rsame_yes u3 u4 w17 (U3H.out.below hb17) hu (U3V.out.trans huv.symm) (by rw [U3N.out]; have := QN.out; omega))
        clear hu huv hun hb17
        go_wp2_with fail
        refine hK.out _ _ (b17.out) (fun hH6 => ?_)
        clear hK K
        refine wpAnyH_ready (rs := [11]) (by kernel_rfl) (by simp) ?_
        refine AllReadyH.cons rfl (fun K hK => ?_) AllReadyH.nil
        go_simp
        refine (SMU.out).mono ?_
        rintro eG w18 ⟨rfl, hb18⟩
        have b18 : Hid (Below WB.heap.size WB w18) := b17.out.trans (hb18.mono b17.out.size)
        clear hb18
        go_wp2_with fail
        refine hK.out _ _ (b18.out) (fun hH7 => ?_)
        clear hK K
        refine takeH (i := 12) 120 (v := .bool true) rfl rfl (by kernel_rfl) (by kernel_rfl) (by kernel_rfl) (fun _ _ _ h => h) (Or.inl ⟨by rfl, ?_⟩) (by assumption) ?_
        · intro w' hSw'
          go_simp
        simp only [Act.put, List.setIfInBounds_toArray, List.set_cons_zero, List.set_cons_succ]
        refine takeH (i := 13) 121 (v := .bool true) rfl rfl (by kernel_rfl) (by kernel_rfl) (by kernel_rfl) (fun _ _ _ h => h) (Or.inl ⟨by rfl, ?_⟩) (by assumption) ?_
        · intro w' hSw'
          go_simp
        simp only [Act.put, List.setIfInBounds_toArray, List.set_cons_zero, List.set_cons_succ]
        refine takeH (i := 14) 122 (v := .pointer (some ⟨b, 0, none⟩)) rfl rfl (by kernel_rfl) (by kernel_rfl) (by kernel_rfl) (fun _ _ _ h => h) (Or.inl ⟨by rfl, ?_⟩) (by assumption) ?_
        · intro w' hSw'
          go_simp
        simp only [Act.put, List.setIfInBounds_toArray, List.set_cons_zero, List.set_cons_succ]
        refine wpAnyH_ready (rs := [15]) (by kernel_rfl) (by simp) ?_
        refine AllReadyH.cons rfl (fun K hK => ?_) AllReadyH.nil
        go_simp
        refine (NM.out _ b18.out).mono ?_
        rintro eH w19 ⟨⟨ao9, c9, rfl⟩, hb19⟩
        have b19 : Hid (Below WB.heap.size WB w19) := b18.out.trans (hb19.mono b18.out.size)
        clear hb19
        go_wp2_with fail
        refine hK.out _ _ (b19.out) (fun hH8 => ?_)
        clear hK K
        refine takeH (i := 16) 124 (v := .int .i64 2) rfl rfl (by kernel_rfl) (by kernel_rfl) (by kernel_rfl) (fun _ _ _ h => h) (Or.inl ⟨by rfl, ?_⟩) (by assumption) ?_
        · intro w' hSw'
          go_simp
        simp only [Act.put, List.setIfInBounds_toArray, List.set_cons_zero, List.set_cons_succ]
        refine takeH (i := 17) 125 (v := .bool true) rfl rfl (by kernel_rfl) (by kernel_rfl) (by kernel_rfl) (fun _ _ _ h => h) (Or.inl ⟨by rfl, ?_⟩) (by assumption) ?_
        · intro w' hSw'
          go_simp
        simp only [Act.put, List.setIfInBounds_toArray, List.set_cons_zero, List.set_cons_succ]
        refine takeH (i := 18) 126 (v := .bool true) rfl rfl (by kernel_rfl) (by kernel_rfl) (by kernel_rfl) (fun _ _ _ h => h) (Or.inl ⟨by rfl, ?_⟩) (by assumption) ?_
        · intro w' hSw'
          go_simp
        simp only [Act.put, List.setIfInBounds_toArray, List.set_cons_zero, List.set_cons_succ]
        refine takeH (i := 19) 8 (v := .bool true) rfl rfl (by kernel_rfl) (by kernel_rfl) (by kernel_rfl) (fun _ _ _ h => h) (Or.inl ⟨by rfl, ?_⟩) (by assumption) ?_
        · intro w' hSw'
          go_simp
        simp only [Act.put, List.setIfInBounds_toArray, List.set_cons_zero, List.set_cons_succ]
        refine wpAnyH_done (by kernel_rfl) ?_ _
        have D16 := keep (D15.out.next b19.out)
        go_wp2
        go_ret
        exact ⟨rfl, UP.out _ D16.out.bel⟩
      | true =>
        go_wp2_with fail
        refine CL.out.mono ?_
        rintro e w14 ⟨S14, rfl, hO14, hf14⟩
        have D14 := keep (D9.out.then hO14)
        have Z14 : Hid (Firm w8.heap.size w14 ⟨zp, zn, zc, zgen, znext, zlog, zseq, zes⟩) := Z13.out.clean (fun g h1 h2 => hO14.bel.block g h2 (fun e => by have := OLD.out g e; omega)) hf14
        have q14 := keep ((hO14.bel.block _ (Array.getElem?_eq_some_iff.1 g13.out).1 (fun e => by have := OLD.out _ e; have := S89.out; omega)).trans g13.out)
        have LB := keep (catload_any S14 b Dc w14 D14.out.mem D14.out.gW)
        rw [SL.out] at LB
        unfold LoadA at LB
        simp only at LB
        clear hO14 hf14
        go_wp2_with fail
        refine LB.out.mono ?_
        rintro e w15 ⟨⟨t, rfl, htf, htv⟩, hb15⟩
        have QH := keep htf.held
        have QV := keep htv
        obtain ⟨qp, qn, qc, qgen, qnext, qlog, qseq, qes⟩ := t
        have QN : Hid (qn ≤ 4096) := by
          have h1 : qes.length = qn := QH.out.len
          have h2 : qes.map (·.m) = Z.tabs := (VV.isV htv).2.2.2.2
          have h3 := SM9.out
          rw [← h2, List.length_map] at h3
          show _ ≤ _
          omega
        try unfold VV.val
        simp only
        obtain ⟨WB, hWB⟩ : ∃ WB, w15.alloc (.cells #[.int .i64 qgen, .int .i64 qnext, .int .i64 qlog, .int .i64 qseq, .slice qp qn qc] 50) = WB := ⟨_, rfl⟩
        have bB : Hid (Below w15.heap.size w15 WB) := by rw [← hWB]; exact (Below.refl _ _).alloc (Nat.le_refl _) _
        have L15 := keep (hb15.trans (bB.out.mono hb15.size))
        have D15 := keep (D14.out.next L15.out)
        have gB : Hid (WB.heap[w15.heap.size]? = some (.cells #[.int .i64 qgen, .int .i64 qnext, .int .i64 qlog, .int .i64 qseq, .slice qp qn qc] 50)) := by rw [← hWB]; exact heap_alloc_new w15 _
        have q15 := keep (below_row q14.out L15.out)
        have CQ_ : Hid (∀ w', Below WB.heap.size WB w' → w'.cell? ⟨w15.heap.size, 0, none⟩ = some (.int .i64 qgen) ∧ w'.cell? ⟨w15.heap.size, 1, none⟩ = some (.int .i64 qnext) ∧ w'.cell? ⟨w15.heap.size, 2, none⟩ = some (.int .i64 qlog) ∧ w'.cell? ⟨w15.heap.size, 3, none⟩ = some (.int .i64 qseq) ∧ w'.cell? ⟨w15.heap.size, 4, none⟩ = some (.slice qp qn qc)) := fun w' hb => ⟨below_cell hb (cell_of_row _ _ _ _ _ _ gB.out), below_cell hb (cell_of_row _ _ _ _ _ _ gB.out), below_cell hb (cell_of_row _ _ _ _ _ _ gB.out), below_cell hb (cell_of_row _ _ _ _ _ _ gB.out), below_cell hb (cell_of_row _ _ _ _ _ _ gB.out)⟩
        have CZ2 : Hid (∀ w', Below WB.heap.size WB w' → w'.cell? ⟨w9.heap.size, 0, none⟩ = some (.int .i64 zgen) ∧ w'.cell? ⟨w9.heap.size, 1, none⟩ = some (.int .i64 znext) ∧ w'.cell? ⟨w9.heap.size, 2, none⟩ = some (.int .i64 zlog) ∧ w'.cell? ⟨w9.heap.size, 3, none⟩ = some (.int .i64 zseq) ∧ w'.cell? ⟨w9.heap.size, 4, none⟩ = some (.slice zp zn zc)) := fun w' hb => ⟨below_cell hb (cell_of_row _ _ _ _ _ _ q15.out), below_cell hb (cell_of_row _ _ _ _ _ _ q15.out), below_cell hb (cell_of_row _ _ _ _ _ _ q15.out), below_cell hb (cell_of_row _ _ _ _ _ _ q15.out), below_cell hb (cell_of_row _ _ _ _ _ _ q15.out)⟩
        have THQ : Hid (∀ w', Below WB.heap.size WB w' → Calls Tryz.prog 27 #[.agg #[.int .i64 qgen, .int .i64 qnext, .int .i64 qlog, .int .i64 qseq, .slice qp qn qc]] w' fun e w'' => ∃ u : VV, e = .returned u.val ∧ VV.held w'' u ∧ u.v = Z ∧ u.n = qn ∧ Below w'.heap.size w' w'') := fun w' hb => by
          have h := theirs11 ⟨qp, qn, qc, qgen, qnext, qlog, qseq, qes⟩ w' (QH.out.below (bB.out.trans (hb.mono bB.out.size))) (by show qn ≤ _; have := QN.out; omega)
          rw [QV.out] at h
          exact h
        have THZ : Hid (∀ w', Below WB.heap.size WB w' → Calls Tryz.prog 27 #[.agg #[.int .i64 zgen, .int .i64 znext, .int .i64 zlog, .int .i64 zseq, .slice zp zn zc]] w' fun e w'' => ∃ u : VV, e = .returned u.val ∧ VV.held w'' u ∧ u.v = Z ∧ u.n = zn ∧ Below w'.heap.size w' w'') := fun w' hb => by
          have h := theirs11 ⟨zp, zn, zc, zgen, znext, zlog, zseq, zes⟩ w' (Z14.out.held.below (L15.out.trans (hb.mono L15.out.size))) (by show zn ≤ _; have := ZN.out; omega)
          rw [ZV.out] at h
          exact h
        have NM : Hid (∀ w', Below WB.heap.size WB w' → Calls Tryz.prog 28 #[.pointer (some ⟨b, 0, none⟩)] w' fun e w'' => (∃ ao c, e = .returned (.slice ao 2 c)) ∧ Below w'.heap.size w' w'') := fun w' hb => by
          obtain ⟨m, l, left, hm⟩ := (D15.out.next hb).mem
          refine (names_mem S14 b m l left _ w' hm).mono ?_
          rintro e w'' ⟨ao, cc, rfl, _, _, hb2⟩
          rw [TWO.out]
          exact ⟨⟨ao, cc, rfl⟩, hb2⟩
        clear htf htv hb15 LB
        go_wp2_with fail
        refine wp_region_held_drew (S := fun w' => Below WB.heap.size WB w') (by kernel_rfl) ((Below.refl _ _).drew) (fun hHeld => ?_)
        refine takeH (i := 0) 108 (v := .int .i64 0) rfl rfl (by kernel_rfl) (by kernel_rfl) (by kernel_rfl) (fun _ _ _ h => h) (Or.inl ⟨by rfl, ?_⟩) (by assumption) ?_
        · intro w' hSw'
          go_simp
        simp only [Act.put, List.setIfInBounds_toArray, List.set_cons_zero, List.set_cons_succ]
        refine takeH (i := 1) 109 (v := .bool true) rfl rfl (by kernel_rfl) (by kernel_rfl) (by kernel_rfl) (fun _ _ _ h => h) (Or.inl ⟨by rfl, ?_⟩) (by assumption) ?_
        · intro w' hSw'
          go_simp
        simp only [Act.put, List.setIfInBounds_toArray, List.set_cons_zero, List.set_cons_succ]
        refine takeH (i := 2) 110 (v := .bool true) rfl rfl (by kernel_rfl) (by kernel_rfl) (by kernel_rfl) (fun _ _ _ h => h) (Or.inl ⟨by rfl, ?_⟩) (by assumption) ?_
        · intro w' hSw'
          go_simp
        simp only [Act.put, List.setIfInBounds_toArray, List.set_cons_zero, List.set_cons_succ]
        refine takeH (i := 3) 111 (v := .int .i64 0) rfl rfl (by kernel_rfl) (by kernel_rfl) (by kernel_rfl) (fun _ _ _ h => h) (Or.inl ⟨by rfl, ?_⟩) (by assumption) ?_
        · intro w' hSw'
          go_simp
        simp only [Act.put, List.setIfInBounds_toArray, List.set_cons_zero, List.set_cons_succ]
        refine takeH (i := 4) 112 (v := .bool true) rfl rfl (by kernel_rfl) (by kernel_rfl) (by kernel_rfl) (fun _ _ _ h => h) (Or.inl ⟨by rfl, ?_⟩) (by assumption) ?_
        · intro w' hSw'
          go_simp
        simp only [Act.put, List.setIfInBounds_toArray, List.set_cons_zero, List.set_cons_succ]
        refine takeH (i := 5) 113 (v := .bool true) rfl rfl (by kernel_rfl) (by kernel_rfl) (by kernel_rfl) (fun _ _ _ h => h) (Or.inl ⟨by rfl, ?_⟩) (by assumption) ?_
        · intro w' hSw'
          go_simp
        simp only [Act.put, List.setIfInBounds_toArray, List.set_cons_zero, List.set_cons_succ]
        refine takeH (i := 6) 114 (v := .bool true) rfl rfl (by kernel_rfl) (by kernel_rfl) (by kernel_rfl) (fun _ _ _ h => h) (Or.inl ⟨by rfl, ?_⟩) (by assumption) ?_
        · intro w' hSw'
          go_simp
        simp only [Act.put, List.setIfInBounds_toArray, List.set_cons_zero, List.set_cons_succ]
        refine takeH (i := 7) 115 (v := .agg #[.int .i64 qgen, .int .i64 qnext, .int .i64 qlog, .int .i64 qseq, .slice qp qn qc]) rfl rfl (by kernel_rfl) (by kernel_rfl) (by kernel_rfl) (fun _ _ _ h => h) (Or.inl ⟨by rfl, ?_⟩) (by assumption) ?_
        · intro w' hSw'
          obtain ⟨d0, d1, d2, d3, d4⟩ := CQ_.out w' hSw'
          go_simp
        simp only [Act.put, List.setIfInBounds_toArray, List.set_cons_zero, List.set_cons_succ]
        refine takeH (i := 9) 117 (v := .agg #[.int .i64 zgen, .int .i64 znext, .int .i64 zlog, .int .i64 zseq, .slice zp zn zc]) rfl rfl (by kernel_rfl) (by kernel_rfl) (by kernel_rfl) (fun _ _ _ h => h) (Or.inl ⟨by rfl, ?_⟩) (by assumption) ?_
        · intro w' hSw'
          obtain ⟨d0, d1, d2, d3, d4⟩ := CZ2.out w' hSw'
          go_simp
        simp only [Act.put, List.setIfInBounds_toArray, List.set_cons_zero, List.set_cons_succ]
        refine wpAnyH_ready (rs := [8]) (by kernel_rfl) (by simp) ?_
        refine AllReadyH.cons rfl (fun K hK => ?_) AllReadyH.nil
        go_simp
        refine (THQ.out _ (Below.refl _ _).drew).mono ?_
        rintro eE w16 ⟨u3, rfl, hu, huv, hun, hb16⟩
        have b16 : Hid (Below WB.heap.size WB w16) := ((Below.refl _ _).drew).trans (hb16.mono (Nat.le_refl _))
        have U3H := keep hu
        have U3V := keep huv
        have U3N := keep hun
        clear hu huv hun hb16
        go_wp2_with fail
        refine hK.out _ _ (b16.out) (fun hH5 => ?_)
        clear hK K
        refine wpAnyH_ready (rs := [10]) (by kernel_rfl) (by simp) ?_
        refine AllReadyH.cons rfl (fun K hK => ?_) AllReadyH.nil
        go_simp
        refine (THZ.out _ b16.out).mono ?_
        rintro eF w17 ⟨u4, rfl, hu, huv, hun, hb17⟩
        have b17 : Hid (Below WB.heap.size WB w17) := b16.out.trans (hb17.mono b16.out.size)
        have SMU := keep (rsame_yes u3 u4 w17 (U3H.out.below hb17) hu (U3V.out.trans huv.symm) (by rw [U3N.out]; have := QN.out; omega))
        clear hu huv hun hb17
        go_wp2_with fail
        refine hK.out _ _ (b17.out) (fun hH6 => ?_)
        clear hK K
        refine wpAnyH_ready (rs := [11]) (by kernel_rfl) (by simp) ?_
        refine AllReadyH.cons rfl (fun K hK => ?_) AllReadyH.nil
        go_simp
        refine (SMU.out).mono ?_
        rintro eG w18 ⟨rfl, hb18⟩
        have b18 : Hid (Below WB.heap.size WB w18) := b17.out.trans (hb18.mono b17.out.size)
        clear hb18
        go_wp2_with fail
        refine hK.out _ _ (b18.out) (fun hH7 => ?_)
        clear hK K
        refine takeH (i := 12) 120 (v := .bool true) rfl rfl (by kernel_rfl) (by kernel_rfl) (by kernel_rfl) (fun _ _ _ h => h) (Or.inl ⟨by rfl, ?_⟩) (by assumption) ?_
        · intro w' hSw'
          go_simp
        simp only [Act.put, List.setIfInBounds_toArray, List.set_cons_zero, List.set_cons_succ]
        refine takeH (i := 13) 121 (v := .bool true) rfl rfl (by kernel_rfl) (by kernel_rfl) (by kernel_rfl) (fun _ _ _ h => h) (Or.inl ⟨by rfl, ?_⟩) (by assumption) ?_
        · intro w' hSw'
          go_simp
        simp only [Act.put, List.setIfInBounds_toArray, List.set_cons_zero, List.set_cons_succ]
        refine takeH (i := 14) 122 (v := .pointer (some ⟨b, 0, none⟩)) rfl rfl (by kernel_rfl) (by kernel_rfl) (by kernel_rfl) (fun _ _ _ h => h) (Or.inl ⟨by rfl, ?_⟩) (by assumption) ?_
        · intro w' hSw'
          go_simp
        simp only [Act.put, List.setIfInBounds_toArray, List.set_cons_zero, List.set_cons_succ]
        refine wpAnyH_ready (rs := [15]) (by kernel_rfl) (by simp) ?_
        refine AllReadyH.cons rfl (fun K hK => ?_) AllReadyH.nil
        go_simp
        refine (NM.out _ b18.out).mono ?_
        rintro eH w19 ⟨⟨ao9, c9, rfl⟩, hb19⟩
        have b19 : Hid (Below WB.heap.size WB w19) := b18.out.trans (hb19.mono b18.out.size)
        clear hb19
        go_wp2_with fail
        refine hK.out _ _ (b19.out) (fun hH8 => ?_)
        clear hK K
        refine takeH (i := 16) 124 (v := .int .i64 2) rfl rfl (by kernel_rfl) (by kernel_rfl) (by kernel_rfl) (fun _ _ _ h => h) (Or.inl ⟨by rfl, ?_⟩) (by assumption) ?_
        · intro w' hSw'
          go_simp
        simp only [Act.put, List.setIfInBounds_toArray, List.set_cons_zero, List.set_cons_succ]
        refine takeH (i := 17) 125 (v := .bool true) rfl rfl (by kernel_rfl) (by kernel_rfl) (by kernel_rfl) (fun _ _ _ h => h) (Or.inl ⟨by rfl, ?_⟩) (by assumption) ?_
        · intro w' hSw'
          go_simp
        simp only [Act.put, List.setIfInBounds_toArray, List.set_cons_zero, List.set_cons_succ]
        refine takeH (i := 18) 126 (v := .bool true) rfl rfl (by kernel_rfl) (by kernel_rfl) (by kernel_rfl) (fun _ _ _ h => h) (Or.inl ⟨by rfl, ?_⟩) (by assumption) ?_
        · intro w' hSw'
          go_simp
        simp only [Act.put, List.setIfInBounds_toArray, List.set_cons_zero, List.set_cons_succ]
        refine takeH (i := 19) 8 (v := .bool true) rfl rfl (by kernel_rfl) (by kernel_rfl) (by kernel_rfl) (fun _ _ _ h => h) (Or.inl ⟨by rfl, ?_⟩) (by assumption) ?_
        · intro w' hSw'
          go_simp
        simp only [Act.put, List.setIfInBounds_toArray, List.set_cons_zero, List.set_cons_succ]
        refine wpAnyH_done (by kernel_rfl) ?_ _
        have D16 := keep (D15.out.next b19.out)
        go_wp2
        go_ret
        exact ⟨rfl, UP.out _ D16.out.bel⟩
    case neg =>
      have z2 : ((E2 : Int) == 0) = false := by rw [beq_eq_false_iff_ne]; omega
      clear hE2
      cases r1 with
      | false =>
        go_wp2_with fail
        refine CL.out.mono ?_
        rintro e w14 ⟨S14, rfl, hO14, hf14⟩
        have D14 := keep (D9.out.then hO14)
        have Z14 : Hid (Firm w8.heap.size w14 ⟨zp, zn, zc, zgen, znext, zlog, zseq, zes⟩) := Z13.out.clean (fun g h1 h2 => hO14.bel.block g h2 (fun e => by have := OLD.out g e; omega)) hf14
        have q14 := keep ((hO14.bel.block _ (Array.getElem?_eq_some_iff.1 g13.out).1 (fun e => by have := OLD.out _ e; have := S89.out; omega)).trans g13.out)
        have LB := keep (catload_any S14 b Dc w14 D14.out.mem D14.out.gW)
        rw [SL.out] at LB
        unfold LoadA at LB
        simp only at LB
        clear hO14 hf14
        go_wp2_with fail
        refine LB.out.mono ?_
        rintro e w15 ⟨⟨t, rfl, htf, htv⟩, hb15⟩
        have QH := keep htf.held
        have QV := keep htv
        obtain ⟨qp, qn, qc, qgen, qnext, qlog, qseq, qes⟩ := t
        have QN : Hid (qn ≤ 4096) := by
          have h1 : qes.length = qn := QH.out.len
          have h2 : qes.map (·.m) = Z.tabs := (VV.isV htv).2.2.2.2
          have h3 := SM9.out
          rw [← h2, List.length_map] at h3
          show _ ≤ _
          omega
        try unfold VV.val
        simp only
        obtain ⟨WB, hWB⟩ : ∃ WB, w15.alloc (.cells #[.int .i64 qgen, .int .i64 qnext, .int .i64 qlog, .int .i64 qseq, .slice qp qn qc] 50) = WB := ⟨_, rfl⟩
        have bB : Hid (Below w15.heap.size w15 WB) := by rw [← hWB]; exact (Below.refl _ _).alloc (Nat.le_refl _) _
        have L15 := keep (hb15.trans (bB.out.mono hb15.size))
        have D15 := keep (D14.out.next L15.out)
        have gB : Hid (WB.heap[w15.heap.size]? = some (.cells #[.int .i64 qgen, .int .i64 qnext, .int .i64 qlog, .int .i64 qseq, .slice qp qn qc] 50)) := by rw [← hWB]; exact heap_alloc_new w15 _
        have q15 := keep (below_row q14.out L15.out)
        have CQ_ : Hid (∀ w', Below WB.heap.size WB w' → w'.cell? ⟨w15.heap.size, 0, none⟩ = some (.int .i64 qgen) ∧ w'.cell? ⟨w15.heap.size, 1, none⟩ = some (.int .i64 qnext) ∧ w'.cell? ⟨w15.heap.size, 2, none⟩ = some (.int .i64 qlog) ∧ w'.cell? ⟨w15.heap.size, 3, none⟩ = some (.int .i64 qseq) ∧ w'.cell? ⟨w15.heap.size, 4, none⟩ = some (.slice qp qn qc)) := fun w' hb => ⟨below_cell hb (cell_of_row _ _ _ _ _ _ gB.out), below_cell hb (cell_of_row _ _ _ _ _ _ gB.out), below_cell hb (cell_of_row _ _ _ _ _ _ gB.out), below_cell hb (cell_of_row _ _ _ _ _ _ gB.out), below_cell hb (cell_of_row _ _ _ _ _ _ gB.out)⟩
        have CZ2 : Hid (∀ w', Below WB.heap.size WB w' → w'.cell? ⟨w9.heap.size, 0, none⟩ = some (.int .i64 zgen) ∧ w'.cell? ⟨w9.heap.size, 1, none⟩ = some (.int .i64 znext) ∧ w'.cell? ⟨w9.heap.size, 2, none⟩ = some (.int .i64 zlog) ∧ w'.cell? ⟨w9.heap.size, 3, none⟩ = some (.int .i64 zseq) ∧ w'.cell? ⟨w9.heap.size, 4, none⟩ = some (.slice zp zn zc)) := fun w' hb => ⟨below_cell hb (cell_of_row _ _ _ _ _ _ q15.out), below_cell hb (cell_of_row _ _ _ _ _ _ q15.out), below_cell hb (cell_of_row _ _ _ _ _ _ q15.out), below_cell hb (cell_of_row _ _ _ _ _ _ q15.out), below_cell hb (cell_of_row _ _ _ _ _ _ q15.out)⟩
        have THQ : Hid (∀ w', Below WB.heap.size WB w' → Calls Tryz.prog 27 #[.agg #[.int .i64 qgen, .int .i64 qnext, .int .i64 qlog, .int .i64 qseq, .slice qp qn qc]] w' fun e w'' => ∃ u : VV, e = .returned u.val ∧ VV.held w'' u ∧ u.v = Z ∧ u.n = qn ∧ Below w'.heap.size w' w'') := fun w' hb => by
          have h := theirs11 ⟨qp, qn, qc, qgen, qnext, qlog, qseq, qes⟩ w' (QH.out.below (bB.out.trans (hb.mono bB.out.size))) (by show qn ≤ _; have := QN.out; omega)
          rw [QV.out] at h
          exact h
        have THZ : Hid (∀ w', Below WB.heap.size WB w' → Calls Tryz.prog 27 #[.agg #[.int .i64 zgen, .int .i64 znext, .int .i64 zlog, .int .i64 zseq, .slice zp zn zc]] w' fun e w'' => ∃ u : VV, e = .returned u.val ∧ VV.held w'' u ∧ u.v = Z ∧ u.n = zn ∧ Below w'.heap.size w' w'') := fun w' hb => by
          have h := theirs11 ⟨zp, zn, zc, zgen, znext, zlog, zseq, zes⟩ w' (Z14.out.held.below (L15.out.trans (hb.mono L15.out.size))) (by show zn ≤ _; have := ZN.out; omega)
          rw [ZV.out] at h
          exact h
        have NM : Hid (∀ w', Below WB.heap.size WB w' → Calls Tryz.prog 28 #[.pointer (some ⟨b, 0, none⟩)] w' fun e w'' => (∃ ao c, e = .returned (.slice ao 2 c)) ∧ Below w'.heap.size w' w'') := fun w' hb => by
          obtain ⟨m, l, left, hm⟩ := (D15.out.next hb).mem
          refine (names_mem S14 b m l left _ w' hm).mono ?_
          rintro e w'' ⟨ao, cc, rfl, _, _, hb2⟩
          rw [TWO.out]
          exact ⟨⟨ao, cc, rfl⟩, hb2⟩
        clear htf htv hb15 LB
        go_wp2_with fail
        refine wp_region_held_drew (S := fun w' => Below WB.heap.size WB w') (by kernel_rfl) ((Below.refl _ _).drew) (fun hHeld => ?_)
        refine takeH (i := 0) 108 (v := .int .i64 0) rfl rfl (by kernel_rfl) (by kernel_rfl) (by kernel_rfl) (fun _ _ _ h => h) (Or.inl ⟨by rfl, ?_⟩) (by assumption) ?_
        · intro w' hSw'
          go_simp
        simp only [Act.put, List.setIfInBounds_toArray, List.set_cons_zero, List.set_cons_succ]
        refine takeH (i := 1) 109 (v := .bool true) rfl rfl (by kernel_rfl) (by kernel_rfl) (by kernel_rfl) (fun _ _ _ h => h) (Or.inl ⟨by rfl, ?_⟩) (by assumption) ?_
        · intro w' hSw'
          go_simp
        simp only [Act.put, List.setIfInBounds_toArray, List.set_cons_zero, List.set_cons_succ]
        refine takeH (i := 2) 110 (v := .bool true) rfl rfl (by kernel_rfl) (by kernel_rfl) (by kernel_rfl) (fun _ _ _ h => h) (Or.inl ⟨by rfl, ?_⟩) (by assumption) ?_
        · intro w' hSw'
          go_simp
        simp only [Act.put, List.setIfInBounds_toArray, List.set_cons_zero, List.set_cons_succ]
        refine takeH (i := 3) 111 (v := .int .i64 0) rfl rfl (by kernel_rfl) (by kernel_rfl) (by kernel_rfl) (fun _ _ _ h => h) (Or.inl ⟨by rfl, ?_⟩) (by assumption) ?_
        · intro w' hSw'
          go_simp
        simp only [Act.put, List.setIfInBounds_toArray, List.set_cons_zero, List.set_cons_succ]
        refine takeH (i := 4) 112 (v := .bool true) rfl rfl (by kernel_rfl) (by kernel_rfl) (by kernel_rfl) (fun _ _ _ h => h) (Or.inl ⟨by rfl, ?_⟩) (by assumption) ?_
        · intro w' hSw'
          go_simp
        simp only [Act.put, List.setIfInBounds_toArray, List.set_cons_zero, List.set_cons_succ]
        refine takeH (i := 5) 113 (v := .bool true) rfl rfl (by kernel_rfl) (by kernel_rfl) (by kernel_rfl) (fun _ _ _ h => h) (Or.inl ⟨by rfl, ?_⟩) (by assumption) ?_
        · intro w' hSw'
          go_simp
        simp only [Act.put, List.setIfInBounds_toArray, List.set_cons_zero, List.set_cons_succ]
        refine takeH (i := 6) 114 (v := .bool true) rfl rfl (by kernel_rfl) (by kernel_rfl) (by kernel_rfl) (fun _ _ _ h => h) (Or.inl ⟨by rfl, ?_⟩) (by assumption) ?_
        · intro w' hSw'
          go_simp
        simp only [Act.put, List.setIfInBounds_toArray, List.set_cons_zero, List.set_cons_succ]
        refine takeH (i := 7) 115 (v := .agg #[.int .i64 qgen, .int .i64 qnext, .int .i64 qlog, .int .i64 qseq, .slice qp qn qc]) rfl rfl (by kernel_rfl) (by kernel_rfl) (by kernel_rfl) (fun _ _ _ h => h) (Or.inl ⟨by rfl, ?_⟩) (by assumption) ?_
        · intro w' hSw'
          obtain ⟨d0, d1, d2, d3, d4⟩ := CQ_.out w' hSw'
          go_simp
        simp only [Act.put, List.setIfInBounds_toArray, List.set_cons_zero, List.set_cons_succ]
        refine takeH (i := 9) 117 (v := .agg #[.int .i64 zgen, .int .i64 znext, .int .i64 zlog, .int .i64 zseq, .slice zp zn zc]) rfl rfl (by kernel_rfl) (by kernel_rfl) (by kernel_rfl) (fun _ _ _ h => h) (Or.inl ⟨by rfl, ?_⟩) (by assumption) ?_
        · intro w' hSw'
          obtain ⟨d0, d1, d2, d3, d4⟩ := CZ2.out w' hSw'
          go_simp
        simp only [Act.put, List.setIfInBounds_toArray, List.set_cons_zero, List.set_cons_succ]
        refine wpAnyH_ready (rs := [8]) (by kernel_rfl) (by simp) ?_
        refine AllReadyH.cons rfl (fun K hK => ?_) AllReadyH.nil
        go_simp
        refine (THQ.out _ (Below.refl _ _).drew).mono ?_
        rintro eE w16 ⟨u3, rfl, hu, huv, hun, hb16⟩
        have b16 : Hid (Below WB.heap.size WB w16) := ((Below.refl _ _).drew).trans (hb16.mono (Nat.le_refl _))
        have U3H := keep hu
        have U3V := keep huv
        have U3N := keep hun
        clear hu huv hun hb16
        go_wp2_with fail
        refine hK.out _ _ (b16.out) (fun hH5 => ?_)
        clear hK K
        refine wpAnyH_ready (rs := [10]) (by kernel_rfl) (by simp) ?_
        refine AllReadyH.cons rfl (fun K hK => ?_) AllReadyH.nil
        go_simp
        refine (THZ.out _ b16.out).mono ?_
        rintro eF w17 ⟨u4, rfl, hu, huv, hun, hb17⟩
        have b17 : Hid (Below WB.heap.size WB w17) := b16.out.trans (hb17.mono b16.out.size)
        have SMU := keep (rsame_yes u3 u4 w17 (U3H.out.below hb17) hu (U3V.out.trans huv.symm) (by rw [U3N.out]; have := QN.out; omega))
        clear hu huv hun hb17
        go_wp2_with fail
        refine hK.out _ _ (b17.out) (fun hH6 => ?_)
        clear hK K
        refine wpAnyH_ready (rs := [11]) (by kernel_rfl) (by simp) ?_
        refine AllReadyH.cons rfl (fun K hK => ?_) AllReadyH.nil
        go_simp
        refine (SMU.out).mono ?_
        rintro eG w18 ⟨rfl, hb18⟩
        have b18 : Hid (Below WB.heap.size WB w18) := b17.out.trans (hb18.mono b17.out.size)
        clear hb18
        go_wp2_with fail
        refine hK.out _ _ (b18.out) (fun hH7 => ?_)
        clear hK K
        refine takeH (i := 12) 120 (v := .bool true) rfl rfl (by kernel_rfl) (by kernel_rfl) (by kernel_rfl) (fun _ _ _ h => h) (Or.inl ⟨by rfl, ?_⟩) (by assumption) ?_
        · intro w' hSw'
          go_simp
        simp only [Act.put, List.setIfInBounds_toArray, List.set_cons_zero, List.set_cons_succ]
        refine takeH (i := 13) 121 (v := .bool true) rfl rfl (by kernel_rfl) (by kernel_rfl) (by kernel_rfl) (fun _ _ _ h => h) (Or.inl ⟨by rfl, ?_⟩) (by assumption) ?_
        · intro w' hSw'
          go_simp
        simp only [Act.put, List.setIfInBounds_toArray, List.set_cons_zero, List.set_cons_succ]
        refine takeH (i := 14) 122 (v := .pointer (some ⟨b, 0, none⟩)) rfl rfl (by kernel_rfl) (by kernel_rfl) (by kernel_rfl) (fun _ _ _ h => h) (Or.inl ⟨by rfl, ?_⟩) (by assumption) ?_
        · intro w' hSw'
          go_simp
        simp only [Act.put, List.setIfInBounds_toArray, List.set_cons_zero, List.set_cons_succ]
        refine wpAnyH_ready (rs := [15]) (by kernel_rfl) (by simp) ?_
        refine AllReadyH.cons rfl (fun K hK => ?_) AllReadyH.nil
        go_simp
        refine (NM.out _ b18.out).mono ?_
        rintro eH w19 ⟨⟨ao9, c9, rfl⟩, hb19⟩
        have b19 : Hid (Below WB.heap.size WB w19) := b18.out.trans (hb19.mono b18.out.size)
        clear hb19
        go_wp2_with fail
        refine hK.out _ _ (b19.out) (fun hH8 => ?_)
        clear hK K
        refine takeH (i := 16) 124 (v := .int .i64 2) rfl rfl (by kernel_rfl) (by kernel_rfl) (by kernel_rfl) (fun _ _ _ h => h) (Or.inl ⟨by rfl, ?_⟩) (by assumption) ?_
        · intro w' hSw'
          go_simp
        simp only [Act.put, List.setIfInBounds_toArray, List.set_cons_zero, List.set_cons_succ]
        refine takeH (i := 17) 125 (v := .bool true) rfl rfl (by kernel_rfl) (by kernel_rfl) (by kernel_rfl) (fun _ _ _ h => h) (Or.inl ⟨by rfl, ?_⟩) (by assumption) ?_
        · intro w' hSw'
          go_simp
        simp only [Act.put, List.setIfInBounds_toArray, List.set_cons_zero, List.set_cons_succ]
        refine takeH (i := 18) 126 (v := .bool true) rfl rfl (by kernel_rfl) (by kernel_rfl) (by kernel_rfl) (fun _ _ _ h => h) (Or.inl ⟨by rfl, ?_⟩) (by assumption) ?_
        · intro w' hSw'
          go_simp
        simp only [Act.put, List.setIfInBounds_toArray, List.set_cons_zero, List.set_cons_succ]
        refine takeH (i := 19) 8 (v := .bool true) rfl rfl (by kernel_rfl) (by kernel_rfl) (by kernel_rfl) (fun _ _ _ h => h) (Or.inl ⟨by rfl, ?_⟩) (by assumption) ?_
        · intro w' hSw'
          go_simp
        simp only [Act.put, List.setIfInBounds_toArray, List.set_cons_zero, List.set_cons_succ]
        refine wpAnyH_done (by kernel_rfl) ?_ _
        have D16 := keep (D15.out.next b19.out)
        go_wp2
        go_ret
        exact ⟨rfl, UP.out _ D16.out.bel⟩
      | true =>
        go_wp2_with fail
        refine CL.out.mono ?_
        rintro e w14 ⟨S14, rfl, hO14, hf14⟩
        have D14 := keep (D9.out.then hO14)
        have Z14 : Hid (Firm w8.heap.size w14 ⟨zp, zn, zc, zgen, znext, zlog, zseq, zes⟩) := Z13.out.clean (fun g h1 h2 => hO14.bel.block g h2 (fun e => by have := OLD.out g e; omega)) hf14
        have q14 := keep ((hO14.bel.block _ (Array.getElem?_eq_some_iff.1 g13.out).1 (fun e => by have := OLD.out _ e; have := S89.out; omega)).trans g13.out)
        have LB := keep (catload_any S14 b Dc w14 D14.out.mem D14.out.gW)
        rw [SL.out] at LB
        unfold LoadA at LB
        simp only at LB
        clear hO14 hf14
        go_wp2_with fail
        refine LB.out.mono ?_
        rintro e w15 ⟨⟨t, rfl, htf, htv⟩, hb15⟩
        have QH := keep htf.held
        have QV := keep htv
        obtain ⟨qp, qn, qc, qgen, qnext, qlog, qseq, qes⟩ := t
        have QN : Hid (qn ≤ 4096) := by
          have h1 : qes.length = qn := QH.out.len
          have h2 : qes.map (·.m) = Z.tabs := (VV.isV htv).2.2.2.2
          have h3 := SM9.out
          rw [← h2, List.length_map] at h3
          show _ ≤ _
          omega
        try unfold VV.val
        simp only
        obtain ⟨WB, hWB⟩ : ∃ WB, w15.alloc (.cells #[.int .i64 qgen, .int .i64 qnext, .int .i64 qlog, .int .i64 qseq, .slice qp qn qc] 50) = WB := ⟨_, rfl⟩
        have bB : Hid (Below w15.heap.size w15 WB) := by rw [← hWB]; exact (Below.refl _ _).alloc (Nat.le_refl _) _
        have L15 := keep (hb15.trans (bB.out.mono hb15.size))
        have D15 := keep (D14.out.next L15.out)
        have gB : Hid (WB.heap[w15.heap.size]? = some (.cells #[.int .i64 qgen, .int .i64 qnext, .int .i64 qlog, .int .i64 qseq, .slice qp qn qc] 50)) := by rw [← hWB]; exact heap_alloc_new w15 _
        have q15 := keep (below_row q14.out L15.out)
        have CQ_ : Hid (∀ w', Below WB.heap.size WB w' → w'.cell? ⟨w15.heap.size, 0, none⟩ = some (.int .i64 qgen) ∧ w'.cell? ⟨w15.heap.size, 1, none⟩ = some (.int .i64 qnext) ∧ w'.cell? ⟨w15.heap.size, 2, none⟩ = some (.int .i64 qlog) ∧ w'.cell? ⟨w15.heap.size, 3, none⟩ = some (.int .i64 qseq) ∧ w'.cell? ⟨w15.heap.size, 4, none⟩ = some (.slice qp qn qc)) := fun w' hb => ⟨below_cell hb (cell_of_row _ _ _ _ _ _ gB.out), below_cell hb (cell_of_row _ _ _ _ _ _ gB.out), below_cell hb (cell_of_row _ _ _ _ _ _ gB.out), below_cell hb (cell_of_row _ _ _ _ _ _ gB.out), below_cell hb (cell_of_row _ _ _ _ _ _ gB.out)⟩
        have CZ2 : Hid (∀ w', Below WB.heap.size WB w' → w'.cell? ⟨w9.heap.size, 0, none⟩ = some (.int .i64 zgen) ∧ w'.cell? ⟨w9.heap.size, 1, none⟩ = some (.int .i64 znext) ∧ w'.cell? ⟨w9.heap.size, 2, none⟩ = some (.int .i64 zlog) ∧ w'.cell? ⟨w9.heap.size, 3, none⟩ = some (.int .i64 zseq) ∧ w'.cell? ⟨w9.heap.size, 4, none⟩ = some (.slice zp zn zc)) := fun w' hb => ⟨below_cell hb (cell_of_row _ _ _ _ _ _ q15.out), below_cell hb (cell_of_row _ _ _ _ _ _ q15.out), below_cell hb (cell_of_row _ _ _ _ _ _ q15.out), below_cell hb (cell_of_row _ _ _ _ _ _ q15.out), below_cell hb (cell_of_row _ _ _ _ _ _ q15.out)⟩
        have THQ : Hid (∀ w', Below WB.heap.size WB w' → Calls Tryz.prog 27 #[.agg #[.int .i64 qgen, .int .i64 qnext, .int .i64 qlog, .int .i64 qseq, .slice qp qn qc]] w' fun e w'' => ∃ u : VV, e = .returned u.val ∧ VV.held w'' u ∧ u.v = Z ∧ u.n = qn ∧ Below w'.heap.size w' w'') := fun w' hb => by
          have h := theirs11 ⟨qp, qn, qc, qgen, qnext, qlog, qseq, qes⟩ w' (QH.out.below (bB.out.trans (hb.mono bB.out.size))) (by show qn ≤ _; have := QN.out; omega)
          rw [QV.out] at h
          exact h
        have THZ : Hid (∀ w', Below WB.heap.size WB w' → Calls Tryz.prog 27 #[.agg #[.int .i64 zgen, .int .i64 znext, .int .i64 zlog, .int .i64 zseq, .slice zp zn zc]] w' fun e w'' => ∃ u : VV, e = .returned u.val ∧ VV.held w'' u ∧ u.v = Z ∧ u.n = zn ∧ Below w'.heap.size w' w'') := fun w' hb => by
          have h := theirs11 ⟨zp, zn, zc, zgen, znext, zlog, zseq, zes⟩ w' (Z14.out.held.below (L15.out.trans (hb.mono L15.out.size))) (by show zn ≤ _; have := ZN.out; omega)
          rw [ZV.out] at h
          exact h
        have NM : Hid (∀ w', Below WB.heap.size WB w' → Calls Tryz.prog 28 #[.pointer (some ⟨b, 0, none⟩)] w' fun e w'' => (∃ ao c, e = .returned (.slice ao 2 c)) ∧ Below w'.heap.size w' w'') := fun w' hb => by
          obtain ⟨m, l, left, hm⟩ := (D15.out.next hb).mem
          refine (names_mem S14 b m l left _ w' hm).mono ?_
          rintro e w'' ⟨ao, cc, rfl, _, _, hb2⟩
          rw [TWO.out]
          exact ⟨⟨ao, cc, rfl⟩, hb2⟩
        clear htf htv hb15 LB
        go_wp2_with fail
        refine wp_region_held_drew (S := fun w' => Below WB.heap.size WB w') (by kernel_rfl) ((Below.refl _ _).drew) (fun hHeld => ?_)
        refine takeH (i := 0) 108 (v := .int .i64 0) rfl rfl (by kernel_rfl) (by kernel_rfl) (by kernel_rfl) (fun _ _ _ h => h) (Or.inl ⟨by rfl, ?_⟩) (by assumption) ?_
        · intro w' hSw'
          go_simp
        simp only [Act.put, List.setIfInBounds_toArray, List.set_cons_zero, List.set_cons_succ]
        refine takeH (i := 1) 109 (v := .bool true) rfl rfl (by kernel_rfl) (by kernel_rfl) (by kernel_rfl) (fun _ _ _ h => h) (Or.inl ⟨by rfl, ?_⟩) (by assumption) ?_
        · intro w' hSw'
          go_simp
        simp only [Act.put, List.setIfInBounds_toArray, List.set_cons_zero, List.set_cons_succ]
        refine takeH (i := 2) 110 (v := .bool true) rfl rfl (by kernel_rfl) (by kernel_rfl) (by kernel_rfl) (fun _ _ _ h => h) (Or.inl ⟨by rfl, ?_⟩) (by assumption) ?_
        · intro w' hSw'
          go_simp
        simp only [Act.put, List.setIfInBounds_toArray, List.set_cons_zero, List.set_cons_succ]
        refine takeH (i := 3) 111 (v := .int .i64 0) rfl rfl (by kernel_rfl) (by kernel_rfl) (by kernel_rfl) (fun _ _ _ h => h) (Or.inl ⟨by rfl, ?_⟩) (by assumption) ?_
        · intro w' hSw'
          go_simp
        simp only [Act.put, List.setIfInBounds_toArray, List.set_cons_zero, List.set_cons_succ]
        refine takeH (i := 4) 112 (v := .bool true) rfl rfl (by kernel_rfl) (by kernel_rfl) (by kernel_rfl) (fun _ _ _ h => h) (Or.inl ⟨by rfl, ?_⟩) (by assumption) ?_
        · intro w' hSw'
          go_simp
        simp only [Act.put, List.setIfInBounds_toArray, List.set_cons_zero, List.set_cons_succ]
        refine takeH (i := 5) 113 (v := .bool true) rfl rfl (by kernel_rfl) (by kernel_rfl) (by kernel_rfl) (fun _ _ _ h => h) (Or.inl ⟨by rfl, ?_⟩) (by assumption) ?_
        · intro w' hSw'
          go_simp
        simp only [Act.put, List.setIfInBounds_toArray, List.set_cons_zero, List.set_cons_succ]
        refine takeH (i := 6) 114 (v := .bool true) rfl rfl (by kernel_rfl) (by kernel_rfl) (by kernel_rfl) (fun _ _ _ h => h) (Or.inl ⟨by rfl, ?_⟩) (by assumption) ?_
        · intro w' hSw'
          go_simp
        simp only [Act.put, List.setIfInBounds_toArray, List.set_cons_zero, List.set_cons_succ]
        refine takeH (i := 7) 115 (v := .agg #[.int .i64 qgen, .int .i64 qnext, .int .i64 qlog, .int .i64 qseq, .slice qp qn qc]) rfl rfl (by kernel_rfl) (by kernel_rfl) (by kernel_rfl) (fun _ _ _ h => h) (Or.inl ⟨by rfl, ?_⟩) (by assumption) ?_
        · intro w' hSw'
          obtain ⟨d0, d1, d2, d3, d4⟩ := CQ_.out w' hSw'
          go_simp
        simp only [Act.put, List.setIfInBounds_toArray, List.set_cons_zero, List.set_cons_succ]
        refine takeH (i := 9) 117 (v := .agg #[.int .i64 zgen, .int .i64 znext, .int .i64 zlog, .int .i64 zseq, .slice zp zn zc]) rfl rfl (by kernel_rfl) (by kernel_rfl) (by kernel_rfl) (fun _ _ _ h => h) (Or.inl ⟨by rfl, ?_⟩) (by assumption) ?_
        · intro w' hSw'
          obtain ⟨d0, d1, d2, d3, d4⟩ := CZ2.out w' hSw'
          go_simp
        simp only [Act.put, List.setIfInBounds_toArray, List.set_cons_zero, List.set_cons_succ]
        refine wpAnyH_ready (rs := [8]) (by kernel_rfl) (by simp) ?_
        refine AllReadyH.cons rfl (fun K hK => ?_) AllReadyH.nil
        go_simp
        refine (THQ.out _ (Below.refl _ _).drew).mono ?_
        rintro eE w16 ⟨u3, rfl, hu, huv, hun, hb16⟩
        have b16 : Hid (Below WB.heap.size WB w16) := ((Below.refl _ _).drew).trans (hb16.mono (Nat.le_refl _))
        have U3H := keep hu
        have U3V := keep huv
        have U3N := keep hun
        clear hu huv hun hb16
        go_wp2_with fail
        refine hK.out _ _ (b16.out) (fun hH5 => ?_)
        clear hK K
        refine wpAnyH_ready (rs := [10]) (by kernel_rfl) (by simp) ?_
        refine AllReadyH.cons rfl (fun K hK => ?_) AllReadyH.nil
        go_simp
        refine (THZ.out _ b16.out).mono ?_
        rintro eF w17 ⟨u4, rfl, hu, huv, hun, hb17⟩
        have b17 : Hid (Below WB.heap.size WB w17) := b16.out.trans (hb17.mono b16.out.size)
        have SMU := keep (rsame_yes u3 u4 w17 (U3H.out.below hb17) hu (U3V.out.trans huv.symm) (by rw [U3N.out]; have := QN.out; omega))
        clear hu huv hun hb17
        go_wp2_with fail
        refine hK.out _ _ (b17.out) (fun hH6 => ?_)
        clear hK K
        refine wpAnyH_ready (rs := [11]) (by kernel_rfl) (by simp) ?_
        refine AllReadyH.cons rfl (fun K hK => ?_) AllReadyH.nil
        go_simp
        refine (SMU.out).mono ?_
        rintro eG w18 ⟨rfl, hb18⟩
        have b18 : Hid (Below WB.heap.size WB w18) := b17.out.trans (hb18.mono b17.out.size)
        clear hb18
        go_wp2_with fail
        refine hK.out _ _ (b18.out) (fun hH7 => ?_)
        clear hK K
        refine takeH (i := 12) 120 (v := .bool true) rfl rfl (by kernel_rfl) (by kernel_rfl) (by kernel_rfl) (fun _ _ _ h => h) (Or.inl ⟨by rfl, ?_⟩) (by assumption) ?_
        · intro w' hSw'
          go_simp
        simp only [Act.put, List.setIfInBounds_toArray, List.set_cons_zero, List.set_cons_succ]
        refine takeH (i := 13) 121 (v := .bool true) rfl rfl (by kernel_rfl) (by kernel_rfl) (by kernel_rfl) (fun _ _ _ h => h) (Or.inl ⟨by rfl, ?_⟩) (by assumption) ?_
        · intro w' hSw'
          go_simp
        simp only [Act.put, List.setIfInBounds_toArray, List.set_cons_zero, List.set_cons_succ]
        refine takeH (i := 14) 122 (v := .pointer (some ⟨b, 0, none⟩)) rfl rfl (by kernel_rfl) (by kernel_rfl) (by kernel_rfl) (fun _ _ _ h => h) (Or.inl ⟨by rfl, ?_⟩) (by assumption) ?_
        · intro w' hSw'
          go_simp
        simp only [Act.put, List.setIfInBounds_toArray, List.set_cons_zero, List.set_cons_succ]
        refine wpAnyH_ready (rs := [15]) (by kernel_rfl) (by simp) ?_
        refine AllReadyH.cons rfl (fun K hK => ?_) AllReadyH.nil
        go_simp
        refine (NM.out _ b18.out).mono ?_
        rintro eH w19 ⟨⟨ao9, c9, rfl⟩, hb19⟩
        have b19 : Hid (Below WB.heap.size WB w19) := b18.out.trans (hb19.mono b18.out.size)
        clear hb19
        go_wp2_with fail
        refine hK.out _ _ (b19.out) (fun hH8 => ?_)
        clear hK K
        refine takeH (i := 16) 124 (v := .int .i64 2) rfl rfl (by kernel_rfl) (by kernel_rfl) (by kernel_rfl) (fun _ _ _ h => h) (Or.inl ⟨by rfl, ?_⟩) (by assumption) ?_
        · intro w' hSw'
          go_simp
        simp only [Act.put, List.setIfInBounds_toArray, List.set_cons_zero, List.set_cons_succ]
        refine takeH (i := 17) 125 (v := .bool true) rfl rfl (by kernel_rfl) (by kernel_rfl) (by kernel_rfl) (fun _ _ _ h => h) (Or.inl ⟨by rfl, ?_⟩) (by assumption) ?_
        · intro w' hSw'
          go_simp
        simp only [Act.put, List.setIfInBounds_toArray, List.set_cons_zero, List.set_cons_succ]
        refine takeH (i := 18) 126 (v := .bool true) rfl rfl (by kernel_rfl) (by kernel_rfl) (by kernel_rfl) (fun _ _ _ h => h) (Or.inl ⟨by rfl, ?_⟩) (by assumption) ?_
        · intro w' hSw'
          go_simp
        simp only [Act.put, List.setIfInBounds_toArray, List.set_cons_zero, List.set_cons_succ]
        refine takeH (i := 19) 8 (v := .bool true) rfl rfl (by kernel_rfl) (by kernel_rfl) (by kernel_rfl) (fun _ _ _ h => h) (Or.inl ⟨by rfl, ?_⟩) (by assumption) ?_
        · intro w' hSw'
          go_simp
        simp only [Act.put, List.setIfInBounds_toArray, List.set_cons_zero, List.set_cons_succ]
        refine wpAnyH_done (by kernel_rfl) ?_ _
        have D16 := keep (D15.out.next b19.out)
        go_wp2
        go_ret
        exact ⟨rfl, UP.out _ D16.out.bel⟩
end Go.Proofs.YthnebhddakfadaaGreatDoor
