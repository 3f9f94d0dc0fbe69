/- The walk of skip's Put: the entry is there already, or it is laid. -/
import Derived.Test.YtjiphmeoofeepaaVc
namespace Go.Proofs.Ytjiphmeoofeepaa
open Go.RowKit
open Sk (Ent)

theorem place_at (ns : List Nd) (e : Ent) : place ns e.key e.seq = Sk.at_ (ents ns) e := rfl
set_option maxHeartbeats 4000000 in
set_option maxRecDepth 100000 in
theorem put_there (B b : Nat) (ns : List Nd) (x : EV) (hgt : Nat) (w : World) (hM : LMem B w b ns) (hx : entKind.held w x) (hmay : Sk.may x.e = true) (h1 : 1 ≤ hgt) (h12 : hgt ≤ 12) (hth : Sk.there (ents ns) x.e = true) :
    Calls Try.prog 7 #[.pointer (some ⟨b, 0, none⟩), ev x, .int .i64 (hgt : Int)] w fun e w' => e = .returned (.int .i64 1) ∧ Below w.heap.size w w' := by
  have hkl : x.e.key.length ≤ 64 := by unfold Sk.may at hmay; simp at hmay; omega
  have hvl : x.e.val.length ≤ 1024 := by unfold Sk.may at hmay; simp at hmay; omega
  obtain ⟨m, hm1, hm2, hm3⟩ : ∃ m, ns[place ns x.e.key x.e.seq]? = some m ∧ m.x.e.key = x.e.key ∧ m.x.e.seq = x.e.seq := by
    obtain ⟨y, hy, h1, h2⟩ := (Sk.there_at hM.mem.up x.e).1 hth
    rw [List.getElem?_map] at hy
    obtain ⟨m, hm, rfl⟩ := Option.map_eq_some_iff.1 hy
    exact ⟨m, hm, h1, h2⟩
  obtain ⟨kp, kc, vp, vc, key, seq, gone, val⟩ := x
  have HKS : Hid (Src w kp key.length kc key) := hx.1
  simp only at hkl hvl hm1 hm2 hm3
  obtain ⟨W1, hW1⟩ : ∃ W1, w.alloc (.cells #[.slice kp key.length kc, .int .i64 seq, .bool gone, .slice vp val.length vc] 28) = W1 := ⟨_, rfl⟩
  have b1 : Hid (Below w.heap.size w W1) := by rw [← hW1]; exact (Below.refl _ _).alloc (Nat.le_refl _) _
  have g1 : Hid (W1.heap[w.heap.size]? = some (.cells #[.slice kp key.length kc, .int .i64 seq, .bool gone, .slice vp val.length vc] 28)) := by rw [← hW1]; exact heap_alloc_new w _
  have c0 : W1.cell? ⟨w.heap.size, 0, none⟩ = some (.slice kp key.length kc) := cell_of_row _ _ _ _ _ _ g1.out
  have c1 : W1.cell? ⟨w.heap.size, 1, none⟩ = some (.int .i64 seq) := cell_of_row _ _ _ _ _ _ g1.out
  have c2 : W1.cell? ⟨w.heap.size, 2, none⟩ = some (.bool gone) := cell_of_row _ _ _ _ _ _ g1.out
  have c3 : W1.cell? ⟨w.heap.size, 3, none⟩ = some (.slice vp val.length vc) := cell_of_row _ _ _ _ _ _ g1.out
  have CK := keep (check_any ⟨kp, kc, vp, vc, ⟨key, seq, gone, val⟩⟩ W1 (by simp only; omega) (by simp only; omega))
  unfold chk ev at CK
  simp only at CK hmay
  rw [hmay] at CK
  simp only [if_true] at CK
  have WI : Hid (∀ w, Calls Try.prog 16 #[.int .i64 (hgt : Int), .int .i64 1, .int .i64 12] w fun e w' => e = .returned (.bool true) ∧ w' = w) := fun w => by
    have := within_any (hgt : Int) 1 12 w
    rwa [show (decide ((1 : Int) ≤ (hgt : Int)) && decide ((hgt : Int) ≤ 12)) = true by simp; omega] at this
  have HM := keep hM
  have HMAY := keep hmay
  have M1 := keep hm1
  have M2 := keep hm2
  have M3 := keep hm3
  unfold ev
  simp only
  clear hM hx hmay hth hm1 hm2 hm3
  go_enter Try.func7, Try.ntmps7
  go_wp2_with fail
  refine CK.out.mono ?_
  rintro e w2 ⟨rfl, hb⟩
  have d0 := below_cell hb c0
  have d1 := below_cell hb c1
  have d2 := below_cell hb c2
  have d3 := below_cell hb c3
  have B2 := keep (b1.out.trans (hb.mono b1.out.size))
  have e2 := keep hb
  clear hb hW1 c0 c1 c2 c3 CK
  go_wp2_with fail
  refine (WI.out w2).mono ?_
  rintro e w3 ⟨rfl, hw3⟩
  have hw4 := hw3.symm
  subst hw4
  go_wp2_with fail
  refine (aheadOf_any kp key.length kc seq w2).mono ?_
  rintro e w4 ⟨rfl, hw4⟩
  have B4 : Hid (Below w2.heap.size w2 w4) := by rw [hw4]; exact ((Below.refl _ _).alloc (Nat.le_refl _) _).alloc (by simp) _
  have BW4 := keep (B2.out.trans (B4.out.mono B2.out.size))
  have AI : Hid (AheadIn w4 w2.heap.size (w2.heap.size + 1) key seq) := by
    refine ⟨kp, kc, HKS.out.below BW4.out, ?_, ?_⟩
    · rw [hw4]
      exact cell_of_row _ _ _ _ _ _ ((Below.heap_alloc _ _ _ (by simp)).trans (heap_alloc_new w2 _))
    · have := heap_alloc_new (w2.alloc (.cells #[.slice kp key.length kc] 26)) (.cells #[.int .i64 seq] 3)
      rw [World.size_alloc] at this
      rw [hw4]
      exact cell_of_row _ _ _ _ _ _ this
  have M4 := keep (HM.out.below BW4.out)
  have SK := keep (seek_two w2.heap.size (w2.heap.size + 1) b ns (Sk.aheadOf key seq) (place ns key seq) w4 M4.out.mem.chain (Sk.cut_count (Sk.ahead_down key seq) M4.out.mem.up) (fun w' x hb hh => ahead_any _ _ key seq x w' (AI.out.below hb) hh))
  clear hw4
  go_wp2_with fail
  refine SK.out.mono ?_
  rintro e w5 ⟨c, rfl, hc12, hcj, hb5⟩
  have B5 := keep (BW4.out.trans (hb5.mono BW4.out.size))
  have f5 := keep (e2.out.trans ((B4.out.trans (hb5.mono B4.out.size)).mono e2.out.size))
  have C12 := keep hc12
  have CJ := keep hcj
  obtain ⟨X, hX⟩ : ∃ X, w5.alloc (.cells nils 47) = X := ⟨_, rfl⟩
  have hh : Hid (X.heap[w5.heap.size]? = some (.cells nils 47)) := by rw [← hX]; exact heap_alloc_new w5 _
  have BX : Hid (Below w5.heap.size w5 X) := by rw [← hX]; exact (Below.refl _ _).alloc (Nat.le_refl _) _
  have TH : Hid (X.there w5.heap.size 0 c.toList.toArray.size) := by
    intro j hj
    have hj' : j < 12 := by simpa [C12.out] using hj
    refine ⟨?_, by simp [World.frozen?, hh.out]⟩
    rw [Nat.zero_add, cell_of_row _ _ _ _ _ _ hh.out]
    have : j < nils.size := hj'
    rw [Array.getElem?_eq_getElem this]
    rfl
  obtain ⟨W6, hW6⟩ : ∃ W6, X.setCells w5.heap.size 0 c.toList.toArray.toList = W6 := ⟨_, rfl⟩
  have BY : Hid (Below w5.heap.size w5 W6) := by rw [← hW6]; exact below_setCells BX.out (Nat.le_refl _) _ _
  have AC : Hid (∀ j, j < 12 → W6.cell? ⟨w5.heap.size, j, none⟩ = some (ptr (blk b ns (lastAt ns j (place ns key seq))))) := fun j hj => by
    have h1 := World.rangeAt_setCells_same X w5.heap.size 0 c.toList.toArray.toList (by simpa using TH.out)
    rw [hW6] at h1
    have h2 := h1 j (ptr (blk b ns (lastAt ns j (place ns key seq)))) (by simpa using CJ.out j hj)
    rwa [Nat.zero_add] at h2
  have ON : Hid (c.toList.toArray.all (·.oneCell') = true) := all_oneCell_toArray (fun v hv => by
    obtain ⟨j, hj⟩ := List.getElem?_of_mem hv
    have hj2 : c[j]? = some v := by simpa using hj
    have hj3 : j < 12 := by have := (Array.getElem?_eq_some_iff.1 hj2).1; have := C12.out; omega
    rw [CJ.out j hj3] at hj2
    cases hj2
    rfl)
  have D5 : Hid (∀ j, j < 4 → w5.cell? ⟨w.heap.size, j, none⟩ = W1.cell? ⟨w.heap.size, j, none⟩) := fun j hj => f5.out.cell (p := ⟨w.heap.size, j, none⟩) (Array.getElem?_eq_some_iff.1 g1.out).1
  have MW := keep (HM.out.below (B5.out.trans (BY.out.mono B5.out.size)))
  have BW6 := keep (B5.out.trans (BY.out.mono B5.out.size))
  have hpl : place ns key seq ≤ ns.length := Nat.le_of_lt (List.getElem?_eq_some_iff.1 M1.out).1
  obtain ⟨hla, hhi⟩ := last_all HM.out.mem.tall hpl
  have k0 := AC.out 0 (by decide)
  rw [hla] at k0
  have k1 := MW.out.mem.chain.at_ hhi (show 0 < 12 by decide)
  rw [nxt_all HM.out.mem.tall] at k1
  unfold nodeAt at k1
  rw [M1.out] at k1
  simp only [Nat.add_zero] at k1
  have hent := MW.out.mem.chain.ents m (List.mem_of_getElem? M1.out)
  obtain ⟨mg, ⟨xkp, xkc, xvp, xvc, ⟨xkey, xseq, xgone, xval⟩⟩, nh⟩ := m
  have hks : xkey = key := M2.out
  have hss : xseq = seq := M3.out
  subst hks
  subst hss
  have q0 : W6.cell? ⟨mg, 0, none⟩ = some (.slice xkp xkey.length xkc) := hent.1 0 _ rfl
  have q1 : W6.cell? ⟨mg, 1, none⟩ = some (.int .i64 xseq) := hent.1 1 _ rfl
  have r0 : W6.cell? ⟨w.heap.size, 0, none⟩ = some (.slice kp xkey.length kc) := by
    rw [BY.out.cell (p := ⟨w.heap.size, 0, none⟩) (Nat.lt_of_lt_of_le (Array.getElem?_eq_some_iff.1 g1.out).1 f5.out.size), D5.out 0 (by decide)]
    exact cell_of_row _ _ _ _ _ _ g1.out
  have r1 : W6.cell? ⟨w.heap.size, 1, none⟩ = some (.int .i64 xseq) := by
    rw [BY.out.cell (p := ⟨w.heap.size, 1, none⟩) (Nat.lt_of_lt_of_le (Array.getElem?_eq_some_iff.1 g1.out).1 f5.out.size), D5.out 1 (by decide)]
    exact cell_of_row _ _ _ _ _ _ g1.out
  have EQ : Hid (∀ n, Calls Try.prog 19 #[.slice xkp xkey.length xkc, .slice kp xkey.length kc] (W6.drewN n) fun e w' => e = .returned (.bool true) ∧ w' = W6.drewN n) := fun n => by
    have := equal_any xkp xkey.length xkc xkey kp xkey.length kc xkey (W6.drewN n) (Src.below hent.2.1 (below_drewN (Below.refl _ _) _)) ((HKS.out.below BW6.out).below (below_drewN (Below.refl _ _) _))
    rwa [decide_eq_true rfl] at this
  obtain ⟨Bk, hBk⟩ : ∃ Bk, blk b ns (place ns xkey xseq) = Bk := ⟨_, rfl⟩
  rw [hBk] at k0 k1
  unfold ptr at k0
  clear hBk hla hhi hpl hent
  have HX := keep hX
  unfold nils at hX
  clear hc12 hcj hb5 d0 d1 d2 d3 SK AI
  go_wp2_with (refine wpList_store_mid rfl _ _ _ rfl _ _ c.toList.toArray rfl rfl TH.out (by rw [infoA]; simp [C12.out]) ON.out ?_; rw [hW6]; clear hX hW6)
  go_quiet ((go_at_call 19; exact Calls.quiet_of_same (EQ.out _)))
  go_wp2
  go_ret
  exact ⟨rfl, BW6.out.trans ((below_drewN (Below.refl _ _) _).mono BW6.out.size)⟩
end Go.Proofs.Ytjiphmeoofeepaa
