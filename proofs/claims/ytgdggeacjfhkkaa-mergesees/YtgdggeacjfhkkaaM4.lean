/- The walk of copies. -/
import Derived.Test.YtgdggeacjfhkkaaM1
import Derived.Deep.RegionHeld3
namespace Go.Proofs.Ytgdggeacjfhkkaa
open Go.RowKit
open Sk (Ent)

/-- How far copies has come. -/
structure CopI (w : World) (l : List Ent) (ys : List EV) (k : Nat) (v : Value) (wr : World) : Prop where
  row : Ents w.heap.size wr v ys
  val : ys.map (·.e) = l
  below : Below w.heap.size w wr
  len : ys.length ≤ k
theorem take_more {l : List Ent} {k : Nat} {m : Ent} (h : l[k]? = some m) : l.take (k + 1) = l.take k ++ [m] := by rw [List.take_add_one, h]; rfl
set_option maxHeartbeats 4000000 in
set_option maxRecDepth 100000 in
theorem copies_any (ao : Option Addr) (n c : Nat) (es : List EV) (w : World) (hsrc : RSrc entKind w ao n c es) (hn : n ≤ 1000000) (hsm : ∀ y ∈ es, y.e.key.length ≤ 140737488355328 ∧ y.e.val.length ≤ 140737488355328) :
    Calls Try.prog 25 #[.slice ao n c] w fun e w' => ∃ v ys, e = .returned v ∧ Ents w.heap.size w' v ys ∧ ys.map (·.e) = es.map (·.e) ∧ Below w.heap.size w w' := by
  obtain ⟨i0, hi0, hz0, hz1, hz2⟩ := info_parts3 infoE
  have SRC := keep hsrc
  have SM := keep hsm
  have HN := keep hsrc.len
  have FULL : Hid ((es.map (·.e)).take n = es.map (·.e)) := List.take_of_length_le (by rw [List.length_map, hsrc.len]; exact Nat.le_refl _)
  clear hsrc hsm
  go_enter Try.func25, Try.ntmps25
  go_wp2
  go_loopw [3, 8] (fun v i wr => ∃ (k : Nat) (ys : List EV), k ≤ n ∧ i = .int .i64 (k : Int) ∧ Hid (CopI w ((es.map (·.e)).take k) ys k v wr)) (fun _ i _ => n - (intOf i).toNat)
  case atStart => exact ⟨0, [], Nat.zero_le _, rfl, Ents.nil _ _, rfl, Below.refl _ _, Nat.le_refl _⟩
  case round =>
    obtain ⟨k, ys, hk, rfl, hI⟩ := hrel
    have HB := keep hI.out.below
    by_cases hkn : k < n
    · have NL := keep hkn
      obtain ⟨b, off, rfl, _, _⟩ := SRC.out.form entKind_ok (by omega)
      obtain ⟨y, hy⟩ : ∃ y, es[k]? = some y := ⟨es[k]'(by rw [HN.out]; exact hkn), List.getElem?_eq_getElem _⟩
      have SE : Hid (∀ w', Below wr.heap.size wr w' → RSrc entKind w' (some ⟨b, off, none⟩) n c es) := fun w' hb => SRC.out.below entKind_ok (HB.out.trans (hb.mono HB.out.size))
      obtain ⟨p0, p1, p2, p3⟩ := ent_cells (SE.out wr (Below.refl _ _)) hy
      have SMK := SM.out y (List.mem_of_getElem? hy)
      have hh := (SE.out wr (Below.refl _ _)).held y (List.mem_of_getElem? hy)
      have HY : Hid ((es.map (·.e))[k]? = some y.e) := by show _ = _; rw [List.getElem?_map, hy]; rfl
      have TM := keep (take_more HY.out)
      have ll : (k : Int) < (n : Int) := by omega
      have l0 : (0 : Int) ≤ (k : Int) := by omega
      obtain ⟨kp, kc, vp, vc, key, seq, gone, val⟩ := y
      have HK : Hid (Src wr kp key.length kc key) := hh.1
      have HV : Hid (Src wr vp val.length vc val) := hh.2
      simp only at p0 p1 p2 p3 HY SMK TM
      obtain ⟨hkl, hvl⟩ := SMK
      clear hh hy
      obtain ⟨K, hK⟩ : ∃ K, key.length = K := ⟨_, rfl⟩
      obtain ⟨V, hV⟩ : ∃ V, val.length = V := ⟨_, rfl⟩
      have HKK := keep hK
      have HVV := keep hV
      rw [hK] at HK hkl p0
      rw [hV] at HV hvl p3
      clear hK hV
      obtain ⟨W1, hW1⟩ : ∃ W1, wr.alloc (.cells #[.slice kp K kc, .int .i64 seq, .bool gone, .slice vp V vc] 36) = W1 := ⟨_, rfl⟩
      have b1 : Hid (Below wr.heap.size wr W1) := by rw [← hW1]; exact (Below.refl _ _).alloc (Nat.le_refl _) _
      have s1 : Hid (W1.heap.size = wr.heap.size + 1) := by rw [← hW1]; show _ = _; simp
      have g0 : Hid (W1.heap[wr.heap.size]? = some (.cells #[.slice kp K kc, .int .i64 seq, .bool gone, .slice vp V vc] 36)) := by rw [← hW1]; exact heap_alloc_new wr _
      have KC1 : Hid (∀ w', Below W1.heap.size W1 w' → Calls Try.prog 45 #[.slice kp K kc] w' fun e w'' => ∃ a c, e = .returned (.slice a K c) ∧ w''.ownsRow W1.heap.size 5 1 (.slice a K c) K (bv key) ∧ Below W1.heap.size W1 w'') := fun w' hb => by
        refine (clone_any kp K kc key w' hkl (HK.out.below (b1.out.trans (hb.mono b1.out.size)))).mono ?_
        rintro e w'' ⟨v, rfl, hn⟩
        obtain ⟨a, c, rfl, _, _⟩ := hn.src
        exact ⟨a, c, rfl, own_base hn.1 (fun g hg => Nat.le_trans hb.size (hn.1.lt g hg).1), hb.trans (hn.2.mono hb.size)⟩
      have KC2 : Hid (∀ w', Below W1.heap.size W1 w' → Calls Try.prog 45 #[.slice vp V vc] w' fun e w'' => ∃ a c, e = .returned (.slice a V c) ∧ w''.ownsRow W1.heap.size 5 1 (.slice a V c) V (bv val) ∧ Below w'.heap.size w' w'') := fun w' hb => by
        refine (clone_any vp V vc val w' hvl (HV.out.below (b1.out.trans (hb.mono b1.out.size)))).mono ?_
        rintro e w'' ⟨v, rfl, hn⟩
        obtain ⟨a, c, rfl, _, _⟩ := hn.src
        exact ⟨a, c, rfl, own_base hn.1 (fun g hg => Nat.le_trans hb.size (hn.1.lt g hg).1), hn.2⟩
      have KF : Hid (∀ w', Below W1.heap.size W1 w' → w'.cell? ⟨wr.heap.size, 0, none⟩ = some (.slice kp K kc) ∧ w'.cell? ⟨wr.heap.size, 3, none⟩ = some (.slice vp V vc) ∧ w'.frozen? ⟨wr.heap.size, 0, none⟩ = false ∧ w'.frozen? ⟨wr.heap.size, 3, none⟩ = false ∧ w'.cell? ⟨wr.heap.size, 1, none⟩ = some (.int .i64 seq) ∧ w'.cell? ⟨wr.heap.size, 2, none⟩ = some (.bool gone)) := fun w' hb => by
        have h := (hb.block _ (by rw [s1.out]; omega)).trans g0.out
        exact ⟨cell_of_row _ _ _ _ _ _ h, cell_of_row _ _ _ _ _ _ h, by simp [World.frozen?, h], by simp [World.frozen?, h], cell_of_row _ _ _ _ _ _ h, cell_of_row _ _ _ _ _ _ h⟩
      obtain ⟨c10, c13, f10, f13, _, _⟩ := KF.out W1 (Below.refl _ _)
      go_wp2_with fail
      go_region_with (first
        | (go_at_call 45; go_fit (KC1.out W1.drew (Below.refl _ _).drew); rintro e w2 ⟨a2, k2, rfl, ho2, hb2⟩; have b2 := keep hb2; have O2 := keep ho2; obtain ⟨c20, c23, f20, f23, _, _⟩ := KF.out w2 hb2; clear ho2 hb2)
        | (go_at_call 45; go_fit (KC2.out w2 b2.out); rintro e w3 ⟨a3, k3, rfl, ho3, hb3⟩; have b3 := keep (b2.out.trans (hb3.mono b2.out.size)); have O3 := keep ho3; have O2' := keep (own_block (w' := w3) O2.out (fun g hg => hb3.block g (own_size O2.out hg))); obtain ⟨c30, c33, f30, f33, c31, c32⟩ := KF.out w3 b3.out; clear ho3 hb3))
      all_goals
        have g3 := keep ((b3.out.block _ (by rw [s1.out]; omega)).trans g0.out)
        obtain ⟨W4, hW4⟩ : ∃ W4, (w3.setCell ⟨wr.heap.size, 0, none⟩ (.slice a2 K k2)).setCell ⟨wr.heap.size, 3, none⟩ (.slice a3 V k3) = W4 := ⟨_, rfl⟩
        have g4 : Hid (W4.heap[wr.heap.size]? = some (.cells #[.slice a2 K k2, .int .i64 seq, .bool gone, .slice a3 V k3] 36)) := by
          rw [← hW4]; exact (set_row (set_row g3.out 0 _) 3 _).trans (by simp)
        have f4 : Hid (∀ g, g ≠ wr.heap.size → W4.heap[g]? = w3.heap[g]?) := fun g hg => by
          rw [← hW4, set_far _ _ hg, set_far _ _ hg]
        have z4 : Hid (W4.heap.size = w3.heap.size) := by rw [← hW4]; show _ = _; simp only [World.setCell, Array.size_modify]
        have B4 : Hid (Below wr.heap.size wr W4) := by
          rw [← hW4]
          exact (((b1.out.trans (b3.out.mono b1.out.size)).setCell (p := ⟨wr.heap.size, 0, none⟩) (Nat.le_refl _) _).setCell (p := ⟨wr.heap.size, 3, none⟩) (Nat.le_refl _) _)
        have Z4 : Hid (OwnE wr.heap.size W4 ⟨a2, k2, a3, k3, ⟨key, seq, gone, val⟩⟩) := by
          constructor
          · show World.ownsRow _ _ _ _ (.slice a2 key.length k2) key.length (bv key)
            rw [HKK.out]
            exact own_base (own_block O2'.out (fun g hg => f4.out g (fun e => by have := (O2'.out.lt g hg).1; rw [s1.out] at this; omega))) (fun g hg => Nat.le_trans (by rw [s1.out]; omega) (O2'.out.lt g hg).1)
          · show World.ownsRow _ _ _ _ (.slice a3 val.length k3) val.length (bv val)
            rw [HVV.out]
            exact own_base (own_block O3.out (fun g hg => f4.out g (fun e => by have := (O3.out.lt g hg).1; rw [s1.out] at this; omega))) (fun g hg => Nat.le_trans (by rw [s1.out]; omega) (O3.out.lt g hg).1)
        have q0 : W4.cell? ⟨wr.heap.size, 0, none⟩ = some (.slice a2 K k2) := cell_of_row _ _ _ _ _ _ g4.out
        have q1 : W4.cell? ⟨wr.heap.size, 1, none⟩ = some (.int .i64 seq) := cell_of_row _ _ _ _ _ _ g4.out
        have q2 : W4.cell? ⟨wr.heap.size, 2, none⟩ = some (.bool gone) := cell_of_row _ _ _ _ _ _ g4.out
        have q3 : W4.cell? ⟨wr.heap.size, 3, none⟩ = some (.slice a3 V k3) := cell_of_row _ _ _ _ _ _ g4.out
        rw [hW4]
        have O4 : Hid (.cells (entKind.vals ⟨a2, k2, a3, k3, ⟨key, seq, gone, val⟩⟩).toArray 36 = Obj.cells #[.slice a2 K k2, .int .i64 seq, .bool gone, .slice a3 V k3] 36) := by
          show _ = _
          rw [← HKK.out, ← HVV.out]
          rfl
        have A5 := keep ((Below.refl W4.heap.size W4).alloc (Nat.le_refl _) (.cells #[.slice a2 K k2, .int .i64 seq, .bool gone, .slice a3 V k3] 36))
        have BW5 := keep (B4.out.trans (A5.out.mono B4.out.size))
        have E5 := keep (hI.out.row.below BW5.out)
        have BL5 := keep (HB.out.trans (BW5.out.mono HB.out.size))
        have Z5 := keep ((Z4.out.base HB.out.size).block A5.out)
        have rc : Hid (∀ j u, (entKind.vals ⟨a2, k2, a3, k3, ⟨key, seq, gone, val⟩⟩)[j]? = some u → (W4.alloc (.cells #[.slice a2 K k2, .int .i64 seq, .bool gone, .slice a3 V k3] 36)).cell? ((⟨W4.heap.size, 0, none⟩ : Addr).add j) = some u) := by
          rw [← O4.out]; exact rec_cells (k := entKind) W4 36 _
        have hyl := hI.out.len
        have hyl2 : ys.length ≤ 1000000 := by omega
        clear hW4 hW1 c10 c13 f10 f13 c20 c23 f20 f23 c30 c33 f30 f33 c31 c32 p0 p1 p2 p3
        go_wp2_with (first
          | (at_builtin; go_loud (refine wpList_append_rec entKind_ok rfl _ _ 24 36 rfl w.heap.size i0 _ 64 Try.underlying24 hi0 hz0 hz1 hz2 rfl u3 ys.length ys rfl E5.out.row _ 1 (⟨a2, k2, a3, k3, ⟨key, seq, gone, val⟩⟩ : EV) rfl rc.out (by unfold maxLen; omega) (by omega) (Nat.le_trans BL5.out.size (Nat.le_refl _)) ?_); intro v5 w5 ho5 hg5; have HO5 := keep ho5; have HG5 := keep hg5; have BL6 := keep (BL5.out.grown hg5 BL5.out.size (fun j hj => (E5.out.row.lt j hj).1)); clear ho5 hg5))
        have E6 := keep (E5.out.more Z5.out HO5.out HG5.out)
        go_roundw
        case rel => exact ⟨k + 1, ys ++ [⟨a2, k2, a3, k3, ⟨key, seq, gone, val⟩⟩], by omega, by go_num, E6.out, by rw [List.map_append, hI.out.val, TM.out]; rfl, BL6.out, by rw [List.length_append, List.length_singleton]; have := hI.out.len; omega⟩
        case measure => simp [intOf]; omega
    · obtain rfl : k = n := by omega
      go_wp2
      go_ret
      exact ⟨_, ys, rfl, hI.out.row, by rw [hI.out.val, FULL.out], HB.out⟩
end Go.Proofs.Ytgdggeacjfhkkaa
