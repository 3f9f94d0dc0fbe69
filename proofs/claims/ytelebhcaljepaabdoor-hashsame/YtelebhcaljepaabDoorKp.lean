/- The walks of the document's Same over hashes, and of the laws' leaves. -/
import Derived.Test.YtelebhcaljepaabDoorKa
import Derived.Test.YtelebhcaljepaabDoorKt
namespace Go.Proofs.YtelebhcaljepaabDoor
open Go.RowKit

set_option maxHeartbeats 2000000 in
set_option maxRecDepth 100000 in
theorem leaves_any (ao : Option Addr) (n c : Nat) (es : List ByteE) (w : World) (hs : RSrc byteKind w ao n c es) (hl : ∀ e ∈ es, e.bytes.length ≤ 140737488354000) (hn : n ≤ 4611686018427387904) :
    Calls Tryd.prog 10 #[.slice ao n c] w (RowR w (leavesL es)) := by
  obtain ⟨i0, hi0, hz0, hz1, hz2⟩ := info_partsS infoS
  have HS := keep hs
  have HN := keep hs.len
  have HL := keep hl
  clear hs hl
  go_enter Tryd.func10, Tryd.ntmps10
  go_wp2
  go_loopw [3, 4] (fun v i wr => ∃ k : Nat, k ≤ n ∧ k ≤ 70 ∧ i = .int .i64 (k : Int) ∧ Hid (wr.ownsRow w.heap.size 9 1 v k (rv strKind ((es.take k).map fun e => leafL e.bytes)) ∧ Below w.heap.size w wr)) (fun _ i _ => n - (intOf i).toNat)
  case atStart => exact ⟨0, Nat.zero_le _, Nat.zero_le _, rfl, World.ownsRow_nil _ _ _ _, Below.refl _ _⟩
  case round =>
    obtain ⟨k, hk, hk70, rfl, hI⟩ := hrel
    obtain ⟨vp, vc, hv⟩ := own_is hI.out.1
    subst hv
    have END : Hid (¬ (k < n ∧ k < 70) → leavesL es = (es.take k).map fun e => leafL e.bytes) := fun h => by
      unfold leavesL
      congr 1
      by_cases h1 : k < n
      · rw [show k = 70 by omega]
      · rw [List.take_of_length_le (by rw [HN.out]; omega), List.take_of_length_le (by rw [HN.out]; omega)]
    by_cases hkn : k < n ∧ k < 70
    · obtain ⟨h1, h2⟩ := hkn
      obtain ⟨b, off, rfl, _, hcell⟩ := slices_at HS.out (by omega)
      obtain ⟨s, hsk⟩ : ∃ s, es[k]? = some s := ⟨es[k]'(by rw [HN.out]; exact h1), List.getElem?_eq_getElem _⟩
      have ck := below_cell hI.out.2 (hcell k s hsk)
      have k0 : (0 : Int) ≤ (k : Int) := by omega
      have k1 : (k : Int) < (n : Int) := by omega
      have k2 : (k : Int) < 70 := by omega
      have LF := keep (rleaf_any s.ptr s.bytes.length s.cap s.bytes wr (HL.out s (List.mem_of_getElem? hsk)) (Src.below (HS.out.held s (List.mem_of_getElem? hsk)) hI.out.2))
      have NXT : Hid ((es.take (k + 1)).map (fun e => leafL e.bytes) = (es.take k).map (fun e => leafL e.bytes) ++ [leafL s.bytes]) := by show _ = _; rw [List.take_add_one, hsk, List.map_append]; rfl
      obtain ⟨Y, hY⟩ : ∃ Y, leafL s.bytes = Y := ⟨_, rfl⟩
      rw [hY] at LF NXT
      obtain ⟨C, hC⟩ : ∃ C, (es.take k).map (fun e => leafL e.bytes) = C := ⟨_, rfl⟩
      rw [hC] at NXT hI
      have O1 := keep hI.out.1
      have B1 := keep hI.out.2
      obtain ⟨sp, sc, sb⟩ := s
      simp only at ck LF
      clear hcell hsk hY hC hI END
      go_wp2_with fail
      refine LF.out.mono ?_
      rintro e w2 ⟨rfl, hb2⟩
      have b3w := keep (B1.out.trans (hb2.mono B1.out.size))
      have O3 := keep (own_next O1.out hb2)
      clear hb2 LF ck
      have rc := keep (rec_cells (k := strKind) w2 9 Y)
      have b4 := keep (b3w.out.alloc b3w.out.size (.cells #[.string ⟨Y.toArray⟩] 9))
      have O4 : Hid ((w2.alloc (.cells #[.string ⟨Y.toArray⟩] 9)).ownsRow w.heap.size 9 1 (.slice vp k vc) k (rv strKind C)) := own_next O3.out ((Below.refl _ _).alloc (Nat.le_refl _) _)
      go_wp2_with (at_builtin; go_loud (refine wpList_append_rec strKind_ok rfl _ _ 22 9 rfl w.heap.size i0 _ 16 Tryd.underlying22 hi0 hz0 hz1 hz2 rfl (.slice vp k vc) k C rfl O4.out _ 1 Y rfl rc.out (by unfold maxLen; omega) (by omega) b4.out.size ?_); intro v7 w7 ho7 hg7; have O7 := keep ho7; have b7 := keep (b4.out.grown hg7 b4.out.size (fun j hj => (O4.out.lt j hj).1)); clear ho7 hg7)
      go_roundw
      case rel => exact ⟨k + 1, by omega, by omega, by go_num, by rw [NXT.out]; exact O7.out, b7.out⟩
      case measure => simp [intOf]; omega
    · have E2 := keep (END.out hkn)
      have O1 := keep hI.out.1
      have B1 := keep hI.out.2
      have LN : Hid (((es.take k).map fun e => leafL e.bytes).length = k) := by show _ = _; rw [List.length_map, List.length_take, HN.out]; omega
      clear hI END
      by_cases h1 : k < n
      · have k1 : (k : Int) < (n : Int) := by omega
        have k2 : ¬ (k : Int) < 70 := by omega
        go_wp2
        go_ret
        exact ⟨_, rfl, by rw [E2.out, LN.out]; exact O1.out, B1.out⟩
      · have k1 : ¬ (k : Int) < (n : Int) := by omega
        go_wp2
        go_ret
        exact ⟨_, rfl, by rw [E2.out, LN.out]; exact O1.out, B1.out⟩
end Go.Proofs.YtelebhcaljepaabDoor
