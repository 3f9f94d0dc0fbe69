/- The walk of RowsFresh. -/
import Derived.Test.YtbgdkkcobcmpoaaGreatDoorJoinEcm
namespace Go.Proofs.YtbgdkkcobcmpoaaGreatDoor
open Go.RowKit Go.Maps

theorem and127 (n : Int) : ∃ q : Nat, q < 128 ∧ bits .and .i64 n 127 = (q : Int) := by
  refine ⟨((BitVec.ofInt 64 n) &&& (BitVec.ofInt 64 127)).toNat, ?_, ?_⟩
  · rw [BitVec.toNat_and]
    exact Nat.lt_of_le_of_lt Nat.and_le_right (by decide)
  · have h : ((BitVec.ofInt 64 n) &&& (BitVec.ofInt 64 127)).toNat < 128 := by
      rw [BitVec.toNat_and]
      exact Nat.lt_of_le_of_lt Nat.and_le_right (by decide)
    show IntKind.i64.wrap (((BitVec.ofInt 64 n) &&& (BitVec.ofInt 64 127)).toNat : Int) = _
    exact wrap_small _ (by omega) (by omega)
/-- Behind so many rounds. -/
def FrI (w0 : World) (wb tb eb wm gm db pm tm sk k : Nat) (w : World) : Prop := (∃ l, UpW w wb tb eb wm gm db pm tm sk l (min (k - 1) 64)) ∧ Below w0.heap.size w0 w
set_option maxHeartbeats 4000000 in
set_option maxRecDepth 100000 in
theorem rowsFresh_walk (n : Int) (b : Addr) (w : World) (ht : Tab w) (hw : 0 < w.heap.size) (hg : ErrIs w b) :
    Calls Tryz.prog 3 #[.int .i64 n] w fun e w' => e = .returned (.bool true) ∧ Below w.heap.size w w' := by
  have HT := keep ht
  have HG := keep hg
  have AW := keep (awake_any b w ht hw hg)
  obtain ⟨q, hq, hqe⟩ := and127 n
  clear ht hg
  go_enter Tryz.func3, Tryz.ntmps3
  go_wp2_with fail
  refine AW.out.mono ?_
  rintro e w1 ⟨rfl, hb1⟩
  have B1 := keep hb1
  have MA := keep (made_any w1 (HT.out.below hb1 hw) (Nat.lt_of_lt_of_le hw hb1.size))
  clear hb1 AW
  go_wp2_with fail
  refine MA.out.mono ?_
  rintro e w2 ⟨wb, tb, eb, wm, gm, db, pm, tm, sk, rfl, hu, hlm, hb2⟩
  have B2 := keep (B1.out.trans (hb2.mono B1.out.size))
  have LM : Hid (w.heap.size ≤ wm) := Nat.le_trans B1.out.size hlm
  have U2 := keep hu
  clear hb2 hlm hu MA
  go_wp2_with fail
  go_loopw [5] (fun i wr => ∃ k : Nat, 1 ≤ k ∧ k ≤ q + 1 ∧ i = .int .i64 (k : Int) ∧ Hid (FrI w wb tb eb wm gm db pm tm sk k wr)) (fun i _ => q + 1 - (intOf i).toNat)
  case atStart => exact ⟨1, Nat.le_refl _, by omega, rfl, ⟨[], U2.out⟩, B2.out⟩
  case round =>
    obtain ⟨k, hk1, hk2, rfl, hI⟩ := hrel
    obtain ⟨⟨l, hu⟩, hbr⟩ := hI.out
    have p1 := hu.ptr
    have U := keep hu
    have BR := keep hbr
    clear hu hbr hI
    rcases Nat.lt_or_ge q k with hlt | hge
    · have j1 : ¬ (k : Int) ≤ (q : Int) := by omega
      go_wp2
      go_ret
      exact ⟨rfl, BR.out⟩
    · have j1 : (k : Int) ≤ (q : Int) := by omega
      rcases Nat.lt_or_ge 64 k with h64 | h64
      · have j2 : ¬ (k : Int) ≤ 64 := by omega
        have j3 : (64 : Int) < (k : Int) := by omega
        have hmin : min (k - 1) 64 = 64 := by omega
        rw [hmin] at U
        have FN := keep (fresh_no tb eb wm gm db pm tm sk 0 l b wr U.out.txn U.out.eng (HG.out.below BR.out) U.out.had)
        clear hmin
        go_wp2_with fail
        refine FN.out.mono ?_
        rintro e w5 ⟨rfl, hb5⟩
        have U5 := keep (U.out.below hb5)
        have B5 := keep (BR.out.trans (hb5.mono BR.out.size))
        have M5 : Hid (min (k + 1 - 1) 64 = 64) := by show _ = _; omega
        clear hb5 FN p1
        go_wp2
        go_roundw
        case rel => exact ⟨k + 1, by omega, by omega, by go_num, ⟨l, by rw [M5.out]; exact U5.out⟩, B5.out⟩
        case measure => simp [intOf]; omega
      · have j2 : (k : Int) ≤ 64 := by omega
        have j3 : ¬ (64 : Int) < (k : Int) := by omega
        have hmin : min (k - 1) 64 = k - 1 := by omega
        rw [hmin] at U
        have FY := keep (fresh_yes tb eb wm gm db pm tm sk 0 l b (k - 1) wr U.out.txn U.out.eng (HG.out.below BR.out) U.out.had (by omega))
        have e1 : k - 1 + 1 = k := by omega
        rw [e1] at FY
        clear hmin e1
        go_wp2_with fail
        refine FY.out.mono ?_
        rintro e w5 ⟨rfl, l5, ht5, hh5, hk5⟩
        have U5 := keep (U.out.put hk5 ht5 hh5)
        have B5 : Hid (Below w.heap.size w w5) := BR.out.trans (hk5.below BR.out.size (fun g hg => by have e : g = wm := hg; rw [e]; exact LM.out))
        have M5 : Hid (min (k + 1 - 1) 64 = k) := by show _ = _; omega
        clear ht5 hh5 hk5 FY p1
        go_wp2
        go_roundw
        case rel => exact ⟨k + 1, by omega, by omega, by go_num, ⟨l5, by rw [M5.out]; exact U5.out⟩, B5.out⟩
        case measure => simp [intOf]; omega
end Go.Proofs.YtbgdkkcobcmpoaaGreatDoor
