/- The walk of skip's Level. -/
import Derived.Test.YtjiphmeoofeepaaSj
namespace Go.Proofs.Ytjiphmeoofeepaa
open Go.RowKit
open Sk (Ent)

set_option maxHeartbeats 2000000 in
set_option maxRecDepth 100000 in
theorem level_mem (b : Nat) (ns : List Nd) (z : Int) (i : Nat) (w : World) (h : SMem w b ns) (hz : z ≤ 12) (hi : (i : Int) = max z 1 - 1) (hl : ns.length ≤ 1000000) :
    Calls Try.prog 21 #[.pointer (some ⟨b, 0, none⟩), .int .i64 z] w fun e w' => ∃ v ys, e = .returned v ∧ Ents w.heap.size w' v ys ∧ ys.map (·.e) = above ns i ∧ Below w.heap.size w w' := by
  have HM := keep h
  have hi12 : i < 12 := by omega
  have HI12 := keep hi12
  obtain ⟨i0, hi0, hz0, hz1, hz2⟩ := info_parts3 infoE
  obtain ⟨M, hM⟩ : ∃ M, max z 1 = M := ⟨_, rfl⟩
  rw [hM] at hi
  have hM3 : (if z < 1 then 1 else z) = M := by rw [← hM]; split <;> omega
  have hw1 : IntKind.i64.wrap (M - 1) = (i : Int) := by rw [wrap_small _ (by omega) (by omega)]; omega
  have hz12 : ¬ 12 < z := by omega
  have j0 : (0 : Int) ≤ (i : Int) := by omega
  have j1 : (i : Int) < 12 := by omega
  have c0 := h.chain.head i hi12
  obtain ⟨V, hV⟩ : ∃ V, nxt ns i = V := ⟨_, rfl⟩
  rw [hV] at c0
  have HV := keep hV
  clear h hi hz hV hi12
  go_enter Try.func21, Try.ntmps21
  go_wp2_with fail
  clear c0
  go_loopg [6, 7] ns.length (fun g v p wr => ∃ (q : Nat) (ys : List EV), g = ns.length - q ∧ q ≤ ns.length ∧ p = nxt (ns.drop q) i ∧ Hid (Ents w.heap.size wr v ys ∧ ys.map (·.e) = above (ns.take q) i ∧ Below w.heap.size w wr ∧ ys.length ≤ q))
  case atStart => exact ⟨0, [], rfl, Nat.zero_le _, by rw [← HV.out]; rfl, Ents.nil _ _, rfl, Below.refl _ _, Nat.le_refl _⟩
  case round =>
    obtain ⟨q, ys, hgk, hq, rfl, hI⟩ := hrel
    have HGK := keep hgk
    have HQ := keep hq
    clear hgk
    cases hx : nxtAt (ns.drop q) i with
    | none =>
      rw [(nxt_none hx).1]
      have HE := keep (above_end hx)
      clear hx hq
      go_wp2
      go_ret
      exact ⟨_, ys, rfl, hI.out.1, by rw [HE.out]; exact hI.out.2.1, hI.out.2.2.1⟩
    | some r =>
      obtain ⟨n, hn1, hn2, hn3, hn4⟩ := nxt_some hx
      rw [hn3]
      rw [List.getElem?_drop] at hn1
      have HAB := keep (above_more hn1 hn2 hn4)
      have M1 := HM.out.below hI.out.2.2.1
      have hent := M1.chain.ents n (List.mem_of_getElem? hn1)
      have hsh := M1.short n (List.mem_of_getElem? hn1)
      have CP := keep (copied_any n.x wr (by omega) (by omega) hent.2)
      have hlt : q + r < ns.length := (List.getElem?_eq_some_iff.1 hn1).1
      have HLT := keep hlt
      have hyl := hI.out.2.2.2
      have HNX : Hid (∀ w', Below w.heap.size w w' → w'.cell? ⟨n.g, 4 + i, none⟩ = some (nxt (ns.drop (q + r + 1)) i)) := fun w' hb => by
        have := (HM.out.below hb).chain.links (q + r) n hn1 i HI12.out
        rw [if_pos hn2] at this
        exact this
      obtain ⟨ng, ⟨xkp, xkc, xvp, xvc, ⟨xkey, xseq, xgone, xval⟩⟩, nh⟩ := n
      have q0 : wr.cell? ⟨ng, 0, none⟩ = some (.slice xkp xkey.length xkc) := hent.1 0 _ rfl
      have q1 : wr.cell? ⟨ng, 1, none⟩ = some (.int .i64 xseq) := hent.1 1 _ rfl
      have q2 : wr.cell? ⟨ng, 2, none⟩ = some (.bool xgone) := hent.1 2 _ rfl
      have q3 : wr.cell? ⟨ng, 3, none⟩ = some (.slice xvp xval.length xvc) := hent.1 3 _ rfl
      unfold ev at CP
      simp only at CP
      clear hx hn1 hn2 hn3 hn4 hent hsh hq hlt M1
      go_wp2_with fail
      refine CP.out.mono ?_
      rintro e w2 ⟨y, rfl, hye, hyo, hb2⟩
      have HYE := keep hye
      have b3 := keep (hb2.alloc hb2.size (.cells (entKind.vals y).toArray 28))
      have E3 := keep (hI.out.1.below b3.out)
      have O3 := keep ((hyo.base hI.out.2.2.1.size).block ((Below.refl w2.heap.size w2).alloc (Nat.le_refl _) (.cells (entKind.vals y).toArray 28)))
      have BL3 := keep (hI.out.2.2.1.trans (b3.out.mono hI.out.2.2.1.size))
      have rc := keep (rec_cells (k := entKind) w2 28 y)
      have hyl2 : ys.length ≤ 1000000 := by have := HQ.out; omega
      obtain ⟨ykp, ykc, yvp, yvc, ⟨ykey, yseq, ygone, yval⟩⟩ := y
      simp only [entKind] at b3 E3 O3 BL3
      simp only
      clear hye hyo hb2 CP q0 q1 q2 q3
      go_wp2_with (first
        | (at_builtin; go_loud (refine wpList_append_rec entKind_ok rfl _ _ 34 28 rfl w.heap.size i0 _ 64 Try.underlying34 hi0 hz0 hz1 hz2 rfl u6 ys.length ys rfl E3.out.row _ 1 (⟨ykp, ykc, yvp, yvc, ⟨ykey, yseq, ygone, yval⟩⟩ : EV) rfl rc.out (by unfold maxLen; omega) (by omega) (Nat.le_trans BL3.out.size (Nat.le_refl _)) ?_); intro v5 w5 ho5 hg5; have HO5 := keep ho5; have HG5 := keep hg5; have BL5 := keep (BL3.out.grown hg5 BL3.out.size (fun j hj => (E3.out.row.lt j hj).1)); have c5 := HNX.out w5 BL5.out; clear ho5 hg5))
      have E5 := keep (E3.out.more O3.out HO5.out HG5.out)
      go_roundg (ns.length - (q + r + 1))
      case measure => have := HGK.out; have := HLT.out; omega
      case rel => exact ⟨q + r + 1, ys ++ [⟨ykp, ykc, yvp, yvc, ⟨ykey, yseq, ygone, yval⟩⟩], rfl, HLT.out, rfl, E5.out, by rw [List.map_append, hI.out.2.1, HAB.out]; exact congrArg (above (ns.take q) i ++ [·]) HYE.out, BL5.out, by rw [List.length_append, List.length_singleton]; have := hI.out.2.2.2; omega⟩
end Go.Proofs.Ytjiphmeoofeepaa
