/- The walk of the document's Climb. -/
import Derived.Test.YtelebhcaljepaaaDoorKe
namespace Go.Proofs.YtelebhcaljepaaaDoor
open Go.RowKit

set_option maxHeartbeats 2000000 in
set_option maxRecDepth 100000 in
theorem rclimb_any (x : List UInt8) (n : Nat) (sp : Option Addr) (sc : Nat) (ss : List Bool) (pp : Option Addr) (pc : Nat) (ps : List (List UInt8)) (w : World) (hs : RSrc boolKind w sp n sc ss) (hp : RSrc strKind w pp n pc ps) (hn : n ≤ 1000) (hx : x.length ≤ 1099511627776) (hl : ∀ e ∈ ps, e.length ≤ 1099511627776) :
    Calls Tryd.prog 40 #[.string ⟨x.toArray⟩, .slice sp n sc, .slice pp n pc] w (RowR w (Mt.climb nodeL x ss ps)) := by
  obtain ⟨i0, hi0, hz0, hz1, hz2⟩ := info_partsS infoS
  have HS := keep hs
  have HP := keep hp
  have HSL := keep hs.len
  have HPL := keep hp.len
  have HL := keep hl
  have HX := keep hx
  have O0 : Hid ((w.alloc (.cells #[.string ⟨x.toArray⟩] 9)).ownsRow w.heap.size 9 1 (.slice (some ⟨w.heap.size, 0, none⟩) 1 1) 1 [.string ⟨x.toArray⟩]) := own_one (Nat.le_refl _)
  have b0 : Hid (Below w.heap.size w (w.alloc (.cells #[.string ⟨x.toArray⟩] 9))) := (Below.refl _ _).alloc (Nat.le_refl _) _
  clear hs hp hl hx
  go_enter Tryd.func40, Tryd.ntmps40
  go_wp2
  go_loopw [7, 8] (fun v i wr => ∃ k : Nat, k ≤ n ∧ i = .int .i64 (k : Int) ∧ Hid (wr.ownsRow w.heap.size 9 1 v (k + 1) (rv strKind (Mt.climb nodeL x (ss.take k) (ps.take k))) ∧ Below w.heap.size w wr)) (fun _ i _ => n - (intOf i).toNat)
  case atStart => exact ⟨0, Nat.zero_le _, rfl, by exact O0.out, b0.out⟩
  case round =>
    clear O0 b0
    obtain ⟨k, hk, rfl, hI⟩ := hrel
    obtain ⟨vp, vc, hv⟩ := own_is hI.out.1
    subst hv
    by_cases hkn : k < n
    · obtain ⟨q, hq⟩ : ∃ q, ps[k]? = some q := ⟨ps[k]'(by rw [HPL.out]; exact hkn), List.getElem?_eq_getElem _⟩
      obtain ⟨sb, hsb⟩ : ∃ sb, ss[k]? = some sb := ⟨ss[k]'(by rw [HSL.out]; exact hkn), List.getElem?_eq_getElem _⟩
      obtain ⟨b, off, rfl, _, hc1⟩ := strs_at HP.out (by omega)
      obtain ⟨b2, off2, rfl, _, hc2⟩ := bools_at HS.out (by omega)
      have cq : wr.cell? ⟨b, off + k, none⟩ = some (.string ⟨q.toArray⟩) := below_cell hI.out.2 (hc1 k q hq)
      have cs : wr.cell? ⟨b2, off2 + k, none⟩ = some (.bool sb) := below_cell hI.out.2 (hc2 k sb hsb)
      have hl1 : (ss.take k).length = (ps.take k).length := by rw [List.length_take, List.length_take, HSL.out, HPL.out]
      have hl2 : (ss.take k).length = k := by rw [List.length_take, HSL.out]; omega
      have hcl := Mt.climb_at nodeL x (ss.take k) (ps.take k) hl1 k (by omega)
      rw [List.take_take, List.take_take, Nat.min_self] at hcl
      have NXT : Hid (Mt.climb nodeL x (ss.take (k + 1)) (ps.take (k + 1)) = Mt.climb nodeL x (ss.take k) (ps.take k) ++ [Mt.up nodeL (Mt.top nodeL x (ss.take k) (ps.take k)) sb q]) := by show _ = _; rw [take_snoc hsb, take_snoc hq]; exact climb_snoc nodeL x _ _ sb q hl1
      have TL := top_len HX.out (ss.take k) (ps.take k)
      have QL := HL.out q (List.mem_of_getElem? hq)
      obtain ⟨X, hX⟩ : ∃ X, Mt.top nodeL x (ss.take k) (ps.take k) = X := ⟨_, rfl⟩
      rw [hX] at hcl NXT TL
      obtain ⟨C, hC⟩ : ∃ C, Mt.climb nodeL x (ss.take k) (ps.take k) = C := ⟨_, rfl⟩
      rw [hC] at hcl NXT hI
      obtain ⟨ap, ac, hv, hR, _⟩ := RSrc.own strKind_ok hI.out.1 (fun _ _ => trivial)
      obtain ⟨e1, e2, e3⟩ := Value.slice.inj hv
      clear e2 hv
      subst e1
      subst e3
      obtain ⟨b3, off3, hb3, _, hc3⟩ := strs_at hR (by omega)
      subst hb3
      have cx : wr.cell? ⟨b3, off3 + k, none⟩ = some (.string ⟨X.toArray⟩) := hc3 k X hcl
      have O1 := keep hI.out.1
      have B1 := keep hI.out.2
      clear hc1 hc2 hc3 hR hX hC hl1 hl2 hcl hq hsb hI
      have k0 : (0 : Int) ≤ (k : Int) := by omega
      have k1 : (k : Int) < (n : Int) := by omega
      have k2 : (k : Int) < ((k + 1 : Nat) : Int) := by omega
      cases sb with
      | false =>
        have ND := keep (rnode_any q X wr (by omega))
        obtain ⟨Y, hY⟩ : ∃ Y, nodeL q X = Y := ⟨_, rfl⟩
        have NX2 : Hid (Mt.climb nodeL x (ss.take (k + 1)) (ps.take (k + 1)) = C ++ [Y]) := by rw [NXT.out, ← hY]; rfl
        rw [hY] at ND
        clear hY NXT
        go_wp2_with fail
        refine ND.out.mono ?_
        rintro e w2 ⟨rfl, hb2⟩
        have b3w := keep (B1.out.trans (hb2.mono B1.out.size))
        have O3 := keep (own_next O1.out hb2)
        clear hb2 ND cq cs cx
        have rc := keep (rec_cells (k := strKind) w2 9 Y)
        have b4 := keep (b3w.out.alloc b3w.out.size (.cells #[.string ⟨Y.toArray⟩] 9))
        have O4 : Hid ((w2.alloc (.cells #[.string ⟨Y.toArray⟩] 9)).ownsRow w.heap.size 9 1 (.slice (some ⟨b3, off3, none⟩) (k + 1) vc) (k + 1) (rv strKind C)) := own_next O3.out ((Below.refl _ _).alloc (Nat.le_refl _) _)
        go_wp2_with (at_builtin; go_loud (refine wpList_append_rec strKind_ok rfl _ _ 22 9 rfl w.heap.size i0 _ 16 Tryd.underlying22 hi0 hz0 hz1 hz2 rfl (.slice (some ⟨b3, off3, none⟩) (k + 1) vc) (k + 1) C rfl O4.out _ 1 Y rfl rc.out (by unfold maxLen; omega) (by omega) b4.out.size ?_); intro v7 w7 ho7 hg7; have O7 := keep ho7; have b7 := keep (b4.out.grown hg7 b4.out.size (fun j hj => (O4.out.lt j hj).1)); clear ho7 hg7)
        go_roundw
        case rel => exact ⟨k + 1, by omega, by go_num, by rw [NX2.out]; exact O7.out, b7.out⟩
        case measure => simp [intOf]; omega
      | true =>
        have ND := keep (rnode_any X q wr (by omega))
        obtain ⟨Y, hY⟩ : ∃ Y, nodeL X q = Y := ⟨_, rfl⟩
        have NX2 : Hid (Mt.climb nodeL x (ss.take (k + 1)) (ps.take (k + 1)) = C ++ [Y]) := by rw [NXT.out, ← hY]; rfl
        rw [hY] at ND
        clear hY NXT
        go_wp2_with fail
        refine ND.out.mono ?_
        rintro e w2 ⟨rfl, hb2⟩
        have b3w := keep (B1.out.trans (hb2.mono B1.out.size))
        have O3 := keep (own_next O1.out hb2)
        clear hb2 ND cq cs cx
        have rc := keep (rec_cells (k := strKind) w2 9 Y)
        have b4 := keep (b3w.out.alloc b3w.out.size (.cells #[.string ⟨Y.toArray⟩] 9))
        have O4 : Hid ((w2.alloc (.cells #[.string ⟨Y.toArray⟩] 9)).ownsRow w.heap.size 9 1 (.slice (some ⟨b3, off3, none⟩) (k + 1) vc) (k + 1) (rv strKind C)) := own_next O3.out ((Below.refl _ _).alloc (Nat.le_refl _) _)
        go_wp2_with (at_builtin; go_loud (refine wpList_append_rec strKind_ok rfl _ _ 22 9 rfl w.heap.size i0 _ 16 Tryd.underlying22 hi0 hz0 hz1 hz2 rfl (.slice (some ⟨b3, off3, none⟩) (k + 1) vc) (k + 1) C rfl O4.out _ 1 Y rfl rc.out (by unfold maxLen; omega) (by omega) b4.out.size ?_); intro v7 w7 ho7 hg7; have O7 := keep ho7; have b7 := keep (b4.out.grown hg7 b4.out.size (fun j hj => (O4.out.lt j hj).1)); clear ho7 hg7)
        go_roundw
        case rel => exact ⟨k + 1, by omega, by go_num, by rw [NX2.out]; exact O7.out, b7.out⟩
        case measure => simp [intOf]; omega
    · have k1 : ¬ (k : Int) < (n : Int) := by omega
      obtain rfl : k = n := by omega
      have O1 := keep hI.out.1
      have B1 := keep hI.out.2
      rw [List.take_of_length_le (by rw [HSL.out]; exact Nat.le_refl _), List.take_of_length_le (by rw [HPL.out]; exact Nat.le_refl _)] at O1
      have CL : Hid ((Mt.climb nodeL x ss ps).length = k + 1) := by show _ = _; rw [Mt.climb_len nodeL x ss ps (by rw [HSL.out, HPL.out]), HSL.out]
      clear hI
      go_wp2
      go_ret
      exact ⟨_, rfl, by rw [CL.out]; exact O1.out, B1.out⟩
end Go.Proofs.YtelebhcaljepaaaDoor
