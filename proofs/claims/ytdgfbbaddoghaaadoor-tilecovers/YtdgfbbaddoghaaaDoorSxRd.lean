/- The walk of the document's Sum. -/
import Derived.Test.YtdgfbbaddoghaaaDoorSxRc
import Derived.Test.YtdgfbbaddoghaaaDoorSxZ
import Derived.Deep.RegionLaw
namespace Go.Proofs.YtdgfbbaddoghaaaDoor.Sha
open Go.RowKit
attribute [local go_sem] shr24 shr16 shr8 lowU lowUW
attribute [local go_sem ↓] Go.wp_at_zero Go.wp_at_succ

theorem padded_is (l : List UInt8) (m : Nat) (hm : l.length = m) : padded l = tail1 l (nz m) ++ be64 (m * 8) := by
  unfold padded tail1
  rw [hm]

set_option maxHeartbeats 2000000 in
set_option maxRecDepth 100000 in
theorem rsum_any (ao : Option Addr) (m c : Nat) (l : List UInt8) (w : World) (hm : m ≤ 140737488355000) (hs : Src w ao m c l) :
    Calls Tryd.prog 37 #[.slice ao m c] w fun e w' => e = .returned (.string ⟨(sum l).toArray⟩) ∧ Below w.heap.size w w' := by
  obtain ⟨i0, hi, hz0, hz1, hz2⟩ := info_parts info5
  obtain ⟨z1, z2, z3⟩ := nz_of m
  have hll := hs.len
  have HS : Hid (Src w ao m c l) := hs
  clear hs
  go_enter Tryd.func37, Tryd.ntmps37
  go_wp2_with (first
    | (at_builtin; refine wpList_append_src rfl (.tmp 10) (.tmp 11) 48 rfl w.heap.size i0 _ Tryd.underlying48 hi hz0 hz1 hz2 rfl _ 0 [] rfl (World.ownsRow_nil _ _ _ _) _ m c l rfl HS.out (by omega) (Nat.le_refl _) ?_; intro v1 w1 ho1 hg1; simp only [Nat.zero_add, List.nil_append] at ho1; have hb1 : Hid (Below w.heap.size w w1) := (Below.refl _ _).grown hg1 (Nat.le_refl _) (fun j hj => by cases hj); have HO1 : Hid (w1.ownsRow w.heap.size 5 1 v1 m (bv l)) := ho1; clear ho1 hg1)
    | (at_builtin; refine wpList_append_lies _ rfl (.tmp 13) (.tmp 14) 48 rfl w.heap.size 5 i0 _ 1 1 Tryd.underlying48 hi hz0 hz1 hz2 rfl (by omega) _ m _ rfl (HO1.out.alloc _) ⟨w1.heap.size, 0, none⟩ 1 1 (bv [128]) rfl rfl (World.news_of_block (heap_alloc_new w1 _)) (bv_one _) (by omega) (by unfold maxLen; omega) (by omega) (by have := hb1.out.size; simp; omega) (w1.heap.size + 1) (by simp) ?_; intro g2 cp2 w2 ho2 hg2 _ _; have hb2 : Hid (Below w.heap.size w w2) := (hb1.out.alloc hb1.out.size _).grown hg2 (by have := hb1.out.size; simp; omega) (fun j hj => (HO1.out.lt j hj).1); have HO2 : Hid (w2.ownsRow w.heap.size 5 1 (.slice (some ⟨g2, 0, none⟩) (m + 1) cp2) (m + 1) (bv (tail1 l 0))) := (by unfold tail1; rw [List.replicate_zero, List.append_nil, bv_append]; exact ho2); clear ho2 hg2))
  clear HO1 hb1 HS
  go_loopw [3] (fun v wr => ∃ j g cp : Nat, j ≤ nz m ∧ v = .slice (some ⟨g, 0, none⟩) (m + 1 + j) cp ∧ Hid (wr.ownsRow w.heap.size 5 1 (.slice (some ⟨g, 0, none⟩) (m + 1 + j) cp) (m + 1 + j) (bv (tail1 l j))) ∧ Hid (Below w.heap.size w wr)) (fun v _ => m + 100 - (match v with | .slice _ k _ => k | _ => 0))
  case atStart => exact ⟨0, g2, cp2, Nat.zero_le _, rfl, HO2, hb2⟩
  case round =>
    clear HO2 hb2
    obtain ⟨j, g, cp, hj, rfl, HO, hb⟩ := hrel
    by_cases hlt : j < nz m
    · have hne := z3 j hlt
      clear z1 z3
      go_wp2_with (at_builtin; refine wpList_append_lies _ rfl _ _ 48 rfl w.heap.size 5 i0 _ 1 1 Tryd.underlying48 hi hz0 hz1 hz2 rfl (by omega) _ (m + 1 + j) _ rfl (HO.out.alloc _) ⟨wr.heap.size, 0, none⟩ 1 1 (bv [0]) rfl rfl (World.news_of_block (heap_alloc_new wr _)) (bv_one _) (by omega) (by unfold maxLen; omega) (by omega) (by have := hb.out.size; simp; omega) (wr.heap.size + 1) (by simp) ?_; intro g3 cp3 w3 ho3 hg3 _ _)
      have hb3 : Hid (Below w.heap.size w w3) := (hb.out.alloc hb.out.size _).grown hg3 (by have := hb.out.size; simp; omega) (fun j hj => (HO.out.lt j hj).1)
      have HO3 : Hid (w3.ownsRow w.heap.size 5 1 (.slice (some ⟨g3, 0, none⟩) (m + 1 + (j + 1)) cp3) (m + 1 + (j + 1)) (bv (tail1 l (j + 1)))) := by rw [tail1_succ, bv_append]; exact ho3
      clear ho3 hg3 HO hb hne
      go_wp2
      go_roundw
      case rel => exact ⟨j + 1, g3, cp3, by omega, rfl, HO3, hb3⟩
      case measure => simp; omega
    · have hj2 : j = nz m := by omega
      subst hj2
      clear z3 hlt hj
      have hbf : ((((m : Int) + 1 + (nz m : Nat)) % 64) != 56) = false := by simp; omega
      go_wp2
      clear hbf
      obtain ⟨wa, rfl⟩ : ∃ wa, wa = wr := ⟨_, rfl⟩
      go_loopw [3, 5] (fun v i ws => ∃ j g cp : Nat, j ≤ 8 ∧ i = .int .i64 (7 - (j : Int)) ∧ v = .slice (some ⟨g, 0, none⟩) (m + 1 + nz m + j) cp ∧ Hid (ws.ownsRow w.heap.size 5 1 (.slice (some ⟨g, 0, none⟩) (m + 1 + nz m + j) cp) (m + 1 + nz m + j) (bv (tail1 l (nz m) ++ (be64 (m * 8)).take j))) ∧ Hid (Below w.heap.size w ws)) (fun v _ _ => m + 200 - (match v with | .slice _ k _ => k | _ => 0))
      case atStart => exact ⟨0, g, cp, Nat.zero_le _, rfl, rfl, by rw [List.take_zero, List.append_nil]; exact HO, hb⟩
      case round =>
        clear HO hb
        obtain ⟨j, g, cp, hj, rfl, rfl, HO, hb⟩ := hrel
        by_cases hlt : j < 8
        · have q0 : (0 : Int) ≤ 8 * (7 - (j : Int)) := by omega
          have q1 : 8 * (7 - (j : Int)) ≤ 64 := by omega
          have q2 : (8 * (7 - (j : Int))).toNat = 56 - 8 * j := by omega
          have q3 : IntKind.u8.wrap ((m : Int) * 8 / 2 ^ (56 - 8 * j)) = ((UInt8.ofNat (m * 8 / 2 ^ (56 - 8 * j))).toNat : Int) := by have := byteN (m * 8) (56 - 8 * j); rwa [Int.natCast_mul] at this
          go_wp2_with (at_builtin; (refine wpList_append_lies _ rfl _ _ 48 rfl w.heap.size 5 i0 _ 1 1 Tryd.underlying48 hi hz0 hz1 hz2 rfl (by omega) _ (m + 1 + nz m + j) _ rfl (HO.out.alloc _) ⟨wr.heap.size, 0, none⟩ 1 1 (bv [UInt8.ofNat (m * 8 / 2 ^ (56 - 8 * j))]) rfl rfl (World.news_of_block (heap_alloc_new wr _)) (bv_one _) (by omega) (by unfold maxLen; omega) (by omega) (by have := hb.out.size; simp; omega) (wr.heap.size + 1) (by simp) ?_); intro g3 cp3 w3 ho3 hg3 _ _)
          have hb3 : Hid (Below w.heap.size w w3) := (hb.out.alloc hb.out.size _).grown hg3 (by have := hb.out.size; simp; omega) (fun j hj => (HO.out.lt j hj).1)
          have HO3 : Hid (w3.ownsRow w.heap.size 5 1 (.slice (some ⟨g3, 0, none⟩) (m + 1 + nz m + (j + 1)) cp3) (m + 1 + nz m + (j + 1)) (bv (tail1 l (nz m) ++ (be64 (m * 8)).take (j + 1)))) := by rw [be64_take _ _ hlt, ← List.append_assoc, bv_append]; exact ho3
          clear ho3 hg3 HO hb q3
          go_wp2
          go_roundw
          case rel => exact ⟨j + 1, g3, cp3, by omega, by go_num, rfl, HO3, hb3⟩
          case measure => simp; omega
        · have hj2 : j = 8 := by omega
          subst hj2
          obtain ⟨A, hA⟩ : ∃ A, tail1 l (nz m) ++ be64 (m * 8) = A := ⟨_, rfl⟩
          have HO' : Hid (wr.ownsRow w.heap.size 5 1 (.slice (some ⟨g, 0, none⟩) (m + 1 + nz m + 8) cp) (m + 1 + nz m + 8) (bv A)) := by rw [← hA]; exact HO
          have hpad : Hid (padded l = A) := by rw [padded_is l m hll, hA]; rfl
          clear hA HO hj hlt
          obtain ⟨N, hN⟩ : ∃ N, (m + 1 + nz m + 8) / 64 = N := ⟨_, rfl⟩
          have hN64 : m + 1 + nz m + 8 = 64 * N := by omega
          obtain ⟨q, hq⟩ : ∃ q, m + 1 + nz m + 8 = q := ⟨_, rfl⟩
          rw [hq] at HO' hN64
          have hql : A.length = q := by have := HO'.out.1; rw [bv_length] at this; omega
          have hqm : q ≤ 140737488355328 := by omega
          have hq64 : (q : Int) = 64 * (N : Int) := by omega
          have hcpq : q ≤ cp := by
            rcases HO'.out.2 with ⟨h0, _⟩ | ⟨g', cap', cur, hv, _, _, hcc, _⟩
            · cases h0
            · cases hv; exact hcc
          have hfin : Hid (sum l = (blk (fn A) N st0).bytes) := by unfold sum; rw [hpad.out, hql, hN64, Nat.mul_div_cancel_left _ (by omega)]; rfl
          rw [hq]
          have HN : Hid (q = 64 * N) := hN64
          clear hq hN z1 z2 hpad hN64 hq64
          go_wp2
          change Code.wp _ _ _ _ (wr.alloc (.cells (uv st0.list).toArray 75))
          have ha0 : Hid (At8 (wr.alloc (.cells (uv st0.list).toArray 75)) wr.heap.size st0) := At8.new wr st0
          have hgA := HO'.out.lt g rfl
          have hby : Hid (Bytes (wr.alloc (.cells (uv st0.list).toArray 75)) g 0 q (fn A)) := fun i hi => by
            have h := HO'.out.cells (g := g) rfl i _ (bv_at A i (by omega))
            rw [Addr.add_mid] at h
            rw [World.cell?_alloc_lt _ _ _ (by exact hgA.2)]; exact h
          have hbb : Hid (Below w.heap.size w (wr.alloc (.cells (uv st0.list).toArray 75))) := hb.out.alloc hb.out.size _
          have hgb : g < (wr.alloc (.cells (uv st0.list).toArray 75)).heap.size := by simp; omega
          generalize wr.alloc (.cells (uv st0.list).toArray 75) = wb at ha0 hby hbb hgb ⊢
          generalize wr.heap.size = gs0 at ha0 ⊢
          have hwb : w.heap.size ≤ wb.heap.size := hbb.out.size
          clear HO' hb hgA
          go_loopw [6, 7] (fun vs i wr => ∃ k gs cs : Nat, k ≤ N ∧ vs = .slice (some ⟨gs, 0, none⟩) 8 cs ∧ i = .int .i64 (64 * (k : Int)) ∧ Hid (At8 wr gs (blk (fn A) k st0)) ∧ Hid (Below wb.heap.size wb wr)) (fun _ i _ => q - (intOf i).toNat)
          case atStart => exact ⟨0, gs0, 8, Nat.zero_le _, rfl, rfl, ha0, Below.refl _ _⟩
          case round =>
            clear ha0
            obtain ⟨k, gs, cs, hk, rfl, rfl, ha, hbz⟩ := hrel
            by_cases hlt : k < N
            · have hNN := HN.out
              have l0 : (0 : Int) ≤ 64 * (k : Int) := by omega
              have l1 : 64 * (k : Int) ≤ 64 * (k : Int) + 64 := by omega
              have l2 : 64 * (k : Int) + 64 ≤ (cp : Int) := by omega
              have l3 : (64 * (k : Int)).toNat = 64 * k := by omega
              have l4 : (64 * (k : Int) + 64).toNat = 64 * k + 64 := by omega
              have l6 : 64 * k + 64 - 64 * k = 64 := by omega
              have l7 : 64 * (k : Int) < (q : Int) := by omega
              have hby' : Hid (Bytes wr g (64 * k) 64 (fun i => fn A (64 * k + i))) := fun i hi => by
                rw [hbz.out.cell (p := ⟨g, 64 * k + i, none⟩) hgb]
                have := hby.out (64 * k + i) (by omega)
                rwa [Nat.zero_add] at this
              obtain ⟨τ, hτ⟩ : ∃ τ, tk (blk (fn A) k st0) (fun i => fn A (64 * k + i)) = τ := ⟨_, rfl⟩
              have hnext : Hid (blk (fn A) (k + 1) st0 = τ) := hτ
              have KT : Hid (Calls Tryd.prog 52 #[.slice (some ⟨gs, 0, none⟩) 8 cs, .slice (some ⟨g, 64 * k, none⟩) 64 (cp - 64 * k)] wr fun e w' => ∃ g5 cp5, e = .returned (.slice (some ⟨g5, 0, none⟩) 8 cp5) ∧ w'.ownsRow wr.heap.size 75 1 (.slice (some ⟨g5, 0, none⟩) 8 cp5) 8 (uv τ.list) ∧ Below wr.heap.size wr w') := by
                rw [← hτ]
                exact rtake_any (blk (fn A) k st0) gs cs g (64 * k) (cp - 64 * k) _ wr (by omega) hby'.out ha.out
              have hkq : 64 * k + 64 ≤ q := by omega
              clear hτ hby' hNN
              go_wp2_with fail
              go_fit KT.out
              rintro e w5 ⟨g5, cp5, rfl, ho5, hb5⟩
              have ha5 : Hid (At8 w5 g5 (blk (fn A) (k + 1) st0)) := by rw [hnext.out]; exact At8.owns ho5
              have hb6 : Hid (Below wb.heap.size wb w5) := hbz.out.trans (hb5.mono hbz.out.size)
              clear ho5 hb5 KT ha hbz hnext
              go_wp2
              go_roundw
              case rel => first | exact ⟨k + 1, g5, cp5, by omega, rfl, by go_num, ha5, hb6⟩ | ((repeat apply Exists.intro); exact ⟨⟨k + 1, g5, cp5, by omega, rfl, by go_num, ha5, hb6⟩, rfl⟩)
              case measure => simp [intOf]; omega
            · have hk2 : k = N := by omega
              subst hk2
              have l7 : ¬ (64 * (k : Int) < (q : Int)) := by have := HN.out; omega
              obtain ⟨σ, hσ⟩ : ∃ σ, blk (fn A) k st0 = σ := ⟨_, rfl⟩
              rw [hσ] at ha
              have hfin' : Hid (sum l = σ.bytes) := by rw [hfin.out, hσ]; rfl
              have hbw : Hid (Below w.heap.size w wr) := hbb.out.trans (hbz.out.mono hwb)
              have hwr : w.heap.size ≤ wr.heap.size := hbw.out.size
              have hgsr := ha.out.block
              clear hσ hfin hbb hbz hby
              obtain ⟨we, rfl⟩ : ∃ we, we = wr := ⟨_, rfl⟩
              go_wp2
              go_loopw [8, 9] (fun v i wz => ∃ n : Nat, n ≤ 8 ∧ i = .int .i64 n ∧ Hid (wz.ownsRow we.heap.size 5 1 v (4 * n) (bv ((σ.list.take n).flatMap be32))) ∧ Hid (Below we.heap.size we wz)) (fun _ i _ => 8 - (intOf i).toNat)
              case atStart => exact ⟨0, by omega, rfl, World.ownsRow_nil _ _ _ _, Below.refl _ _⟩
              case round =>
                obtain ⟨n, hn, rfl, ho, hbz⟩ := hrel
                by_cases hlt8 : n < 8
                · have n0 : (0 : Int) ≤ (n : Int) := by omega
                  have n1 : (n : Int) < 8 := by omega
                  obtain ⟨x, hx⟩ : ∃ x, σ.list.getD n 0 = x := ⟨_, rfl⟩
                  have hbt := bytes_take σ n hlt8
                  rw [hx] at hbt
                  have HBT : Hid ((σ.list.take (n + 1)).flatMap be32 = (σ.list.take n).flatMap be32 ++ be32 x) := hbt
                  have d1 : wr.cell? ⟨gs, n, none⟩ = some (.int .u32 (U x)) := by rw [hbz.out.cell (p := ⟨gs, n, none⟩) hgsr, ← hx]; exact ha.out n hlt8
                  clear hbt hx
                  go_wp2_with fail
                  have hnb : some gs ≠ u8.ownBlock := fun e => by have := (ho.out.lt gs e.symm).1; omega
                  have hgz : gs < wr.heap.size := by have := hbz.out.size; omega
                  go_region_held3 (fun w' => w'.cell? ⟨gs, n, none⟩ = some (.int .u32 (U x))) (first | go_keep | (rw [hg5.cell_far _ (by simp; omega) hnb]; assumption)) ((refine step_append_lies _ (by rfl) _ _ _ (by rfl) we.heap.size 5 i0 _ 1 1 Tryd.underlying48 hi hz0 hz1 hz2 rfl (by omega) _ (4 * n) _ (by rfl) (by exact ((ho.out.alloc _).drew)) ⟨wr.heap.size, 0, none⟩ 4 4 (bv (be32 x)) (by rfl) (by rfl) (World.news_of_block (heap_alloc_new wr _)) (bv_one _) (by omega) (by unfold maxLen; omega) (by omega) (by have := hbz.out.size; simp; omega) (wr.heap.size + 1) (by simp) ?_; intro g5 cp5 w5 ho5 hg5 hat5 hlt5))
                  all_goals
                    have ho6 : Hid (w5.ownsRow we.heap.size 5 1 (.slice (some ⟨g5, 0, none⟩) (4 * (n + 1)) cp5) (4 * (n + 1)) (bv ((σ.list.take (n + 1)).flatMap be32))) := by rw [HBT.out, bv_append]; exact ho5
                    have hb6 : Hid (Below we.heap.size we w5) := ((hbz.out.alloc hbz.out.size _).drew).grown hg5 (by have := hbz.out.size; simp; omega) (fun j hj => (ho.out.lt j hj).1)
                    clear ho5 hg5 hat5 hlt5 ho hbz d1 HBT hnb
                    go_wp2
                    go_roundw
                    case rel => first | exact ⟨n + 1, by omega, by go_num, ho6, hb6⟩ | ((repeat apply Exists.intro); exact ⟨⟨n + 1, by omega, by go_num, ho6, hb6⟩, rfl⟩)
                    case measure => simp [intOf]; omega
                · have hn2 : n = 8 := by omega
                  subst hn2
                  have hcv := conv_any Tryd.underlying48 Tryd.underlying5 Tryd.underlying9 ho.out (bytes_len σ 8 (by omega))
                  go_wp2
                  go_ret
                  exact ⟨by rw [hfin'.out]; rfl, hbw.out.trans (hbz.out.mono hwr)⟩
end Go.Proofs.YtdgfbbaddoghaaaDoor.Sha
