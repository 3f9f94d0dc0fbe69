/- The walk of skip's Put, where the entry is laid. -/
import Derived.Test.YtjiphmeoofeepaaVf
namespace Go.Proofs.Ytjiphmeoofeepaa
open Go.RowKit
open Sk (Ent)

/-- An entry's bytes lie at or beyond B. -/
def NewB (B : Nat) (x : EV) : Prop := (∀ g, (Value.slice x.kp x.e.key.length x.kc).ownBlock = some g → B ≤ g) ∧ ∀ g, (Value.slice x.vp x.e.val.length x.vc).ownBlock = some g → B ≤ g
theorem own_from {w : World} {B t k n : Nat} {v : Value} {xs : List Value} (h : w.ownsRow B t k v n xs) {g : Nat} (hg : v.ownBlock = some g) : B ≤ g := by
  rcases h.2 with ⟨rfl, _⟩ | ⟨g', cap, cur, rfl, hb, _⟩
  · cases hg
  · cases hg
    exact hb
theorem OwnE.newB {B : Nat} {w : World} {y : EV} (h : OwnE B w y) : NewB B y := ⟨fun _ hg => own_from h.1 hg, fun _ hg => own_from h.2 hg⟩
theorem NewB.low {A B : Nat} {y : EV} (h : NewB B y) (hab : A ≤ B) : NewB A y := ⟨fun g hg => Nat.le_trans hab (h.1 g hg), fun g hg => Nat.le_trans hab (h.2 g hg)⟩
theorem cell_drewB (w : World) (a : Addr) : w.drew.cell? a = w.cell? a := rfl
theorem frozen_drewB (w : World) (a : Addr) : w.drew.frozen? a = w.frozen? a := rfl
theorem Rise.drew {B : Nat} {W : World} {b : Nat} {pre post : List Nd} {g : Nat} {y : EV} {k : Nat} {wr : World} {u v : Value} {p q : Addr} (h : Rise B W b pre post g y k ((wr.setCell p u).setCell q v)) : Rise B W b pre post g y k ((wr.setCell p u).drew.setCell q v) :=
  ⟨⟨h.chain.head, h.chain.links, fun n hn => ⟨(h.chain.ents n hn).1, ⟨⟨(h.chain.ents n hn).2.1.len, (h.chain.ents n hn).2.1.cap, (h.chain.ents n hn).2.1.nil, (h.chain.ents n hn).2.1.cells⟩, ⟨(h.chain.ents n hn).2.2.len, (h.chain.ents n hn).2.2.cap, (h.chain.ents n hn).2.2.nil, (h.chain.ents n hn).2.2.cells⟩⟩⟩⟩, h.lone, h.own, h.tagB, h.tagN, ⟨h.kept.os, h.kept.tape, h.kept.output, h.kept.size, h.kept.block⟩, h.cnt, h.siz⟩
set_option maxHeartbeats 8000000 in
set_option maxRecDepth 100000 in
theorem put_new (B b : Nat) (ns : List Nd) (x : EV) (hgt : Nat) (w : World) (hM : LMem B w b ns) (hBw : B ≤ w.heap.size) (hln : ns.length ≤ 1000000) (hx : entKind.held w x) (hmay : Sk.may x.e = true) (h1 : 1 ≤ hgt) (h12 : hgt ≤ 12) (hth : Sk.there (ents ns) x.e = false) :
    Calls Try.prog 7 #[.pointer (some ⟨b, 0, none⟩), ev x, .int .i64 (hgt : Int)] w fun e w' => e = .returned (.int .i64 0) ∧ ∃ n : Nd, n.x.e = x.e ∧ n.h = hgt ∧ w.heap.size ≤ n.g ∧ LMem B w' b (ns.take (place ns x.e.key x.e.seq) ++ n :: ns.drop (place ns x.e.key x.e.seq)) ∧ Kept (foot b ns) w w' ∧ NewB w.heap.size n.x := by
  have hkl : x.e.key.length ≤ 64 := by unfold Sk.may at hmay; simp at hmay; omega
  have hvl : x.e.val.length ≤ 1024 := by unfold Sk.may at hmay; simp at hmay; omega
  obtain ⟨kp, kc, vp, vc, key, seq, gone, val⟩ := x
  have HKS : Hid (Src w kp key.length kc key) := hx.1
  have HXS : Hid (entKind.held w ⟨kp, kc, vp, vc, ⟨key, seq, gone, val⟩⟩) := hx
  simp only at hkl hvl hth
  obtain ⟨W1, hW1⟩ : ∃ W1, w.alloc (.cells #[.slice kp key.length kc, .int .i64 seq, .bool gone, .slice vp val.length vc] 28) = W1 := ⟨_, rfl⟩
  have b1 : Hid (Below w.heap.size w W1) := by rw [← hW1]; exact (Below.refl _ _).alloc (Nat.le_refl _) _
  have g1 : Hid (W1.heap[w.heap.size]? = some (.cells #[.slice kp key.length kc, .int .i64 seq, .bool gone, .slice vp val.length vc] 28)) := by rw [← hW1]; exact heap_alloc_new w _
  have c0 : W1.cell? ⟨w.heap.size, 0, none⟩ = some (.slice kp key.length kc) := cell_of_row _ _ _ _ _ _ g1.out
  have c1 : W1.cell? ⟨w.heap.size, 1, none⟩ = some (.int .i64 seq) := cell_of_row _ _ _ _ _ _ g1.out
  have c2 : W1.cell? ⟨w.heap.size, 2, none⟩ = some (.bool gone) := cell_of_row _ _ _ _ _ _ g1.out
  have c3 : W1.cell? ⟨w.heap.size, 3, none⟩ = some (.slice vp val.length vc) := cell_of_row _ _ _ _ _ _ g1.out
  have CK := keep (check_any ⟨kp, kc, vp, vc, ⟨key, seq, gone, val⟩⟩ W1 (by simp only; omega) (by simp only; omega))
  unfold chk ev at CK
  simp only at CK hmay
  rw [hmay] at CK
  simp only [if_true] at CK
  have WI : Hid (∀ w, Calls Try.prog 16 #[.int .i64 (hgt : Int), .int .i64 1, .int .i64 12] w fun e w' => e = .returned (.bool true) ∧ w' = w) := fun w => by
    have := within_any (hgt : Int) 1 12 w
    rwa [show (decide ((1 : Int) ≤ (hgt : Int)) && decide ((hgt : Int) ≤ 12)) = true by simp; omega] at this
  have HM := keep hM
  have HMAY := keep hmay
  have HTH := keep hth
  unfold ev
  simp only
  clear hM hx hmay hth
  go_enter Try.func7, Try.ntmps7
  go_wp2_with fail
  refine CK.out.mono ?_
  rintro e w2 ⟨rfl, hb⟩
  have d0 := below_cell hb c0
  have d1 := below_cell hb c1
  have d2 := below_cell hb c2
  have d3 := below_cell hb c3
  have B2 := keep (b1.out.trans (hb.mono b1.out.size))
  have e2 := keep hb
  clear hb hW1 c0 c1 c2 c3 CK
  go_wp2_with fail
  refine (WI.out w2).mono ?_
  rintro e w3 ⟨rfl, hw3⟩
  have hw4 := hw3.symm
  subst hw4
  go_wp2_with fail
  refine (aheadOf_any kp key.length kc seq w2).mono ?_
  rintro e w4 ⟨rfl, hw4⟩
  have B4 : Hid (Below w2.heap.size w2 w4) := by rw [hw4]; exact ((Below.refl _ _).alloc (Nat.le_refl _) _).alloc (by simp) _
  have BW4 := keep (B2.out.trans (B4.out.mono B2.out.size))
  have AI : Hid (AheadIn w4 w2.heap.size (w2.heap.size + 1) key seq) := by
    refine ⟨kp, kc, HKS.out.below BW4.out, ?_, ?_⟩
    · rw [hw4]
      exact cell_of_row _ _ _ _ _ _ ((Below.heap_alloc _ _ _ (by simp)).trans (heap_alloc_new w2 _))
    · have := heap_alloc_new (w2.alloc (.cells #[.slice kp key.length kc] 26)) (.cells #[.int .i64 seq] 3)
      rw [World.size_alloc] at this
      rw [hw4]
      exact cell_of_row _ _ _ _ _ _ this
  have M4 := keep (HM.out.below BW4.out)
  have SK := keep (seek_two w2.heap.size (w2.heap.size + 1) b ns (Sk.aheadOf key seq) (place ns key seq) w4 M4.out.mem.chain (Sk.cut_count (Sk.ahead_down key seq) M4.out.mem.up) (fun w' x hb hh => ahead_any _ _ key seq x w' (AI.out.below hb) hh))
  clear hw4
  go_wp2_with fail
  refine SK.out.mono ?_
  rintro e w5 ⟨c, rfl, hc12, hcj, hb5⟩
  have B5 := keep (BW4.out.trans (hb5.mono BW4.out.size))
  have f5 := keep (e2.out.trans ((B4.out.trans (hb5.mono B4.out.size)).mono e2.out.size))
  have C12 := keep hc12
  have CJ := keep hcj
  obtain ⟨X, hX⟩ : ∃ X, w5.alloc (.cells nils 47) = X := ⟨_, rfl⟩
  have hh : Hid (X.heap[w5.heap.size]? = some (.cells nils 47)) := by rw [← hX]; exact heap_alloc_new w5 _
  have BX : Hid (Below w5.heap.size w5 X) := by rw [← hX]; exact (Below.refl _ _).alloc (Nat.le_refl _) _
  have TH : Hid (X.there w5.heap.size 0 c.toList.toArray.size) := by
    intro j hj
    have hj' : j < 12 := by simpa [C12.out] using hj
    refine ⟨?_, by simp [World.frozen?, hh.out]⟩
    rw [Nat.zero_add, cell_of_row _ _ _ _ _ _ hh.out]
    have : j < nils.size := hj'
    rw [Array.getElem?_eq_getElem this]
    rfl
  obtain ⟨W6, hW6⟩ : ∃ W6, X.setCells w5.heap.size 0 c.toList.toArray.toList = W6 := ⟨_, rfl⟩
  have BY : Hid (Below w5.heap.size w5 W6) := by rw [← hW6]; exact below_setCells BX.out (Nat.le_refl _) _ _
  have AC : Hid (∀ j, j < 12 → W6.cell? ⟨w5.heap.size, j, none⟩ = some (ptr (blk b ns (lastAt ns j (place ns key seq))))) := fun j hj => by
    have h1 := World.rangeAt_setCells_same X w5.heap.size 0 c.toList.toArray.toList (by simpa using TH.out)
    rw [hW6] at h1
    have h2 := h1 j (ptr (blk b ns (lastAt ns j (place ns key seq)))) (by simpa using CJ.out j hj)
    rwa [Nat.zero_add] at h2
  have ON : Hid (c.toList.toArray.all (·.oneCell') = true) := all_oneCell_toArray (fun v hv => by
    obtain ⟨j, hj⟩ := List.getElem?_of_mem hv
    have hj2 : c[j]? = some v := by simpa using hj
    have hj3 : j < 12 := by have := (Array.getElem?_eq_some_iff.1 hj2).1; have := C12.out; omega
    rw [CJ.out j hj3] at hj2
    cases hj2
    rfl)
  have D5 : Hid (∀ j, j < 4 → w5.cell? ⟨w.heap.size, j, none⟩ = W1.cell? ⟨w.heap.size, j, none⟩) := fun j hj => f5.out.cell (p := ⟨w.heap.size, j, none⟩) (Array.getElem?_eq_some_iff.1 g1.out).1
  have MW := keep (HM.out.below (B5.out.trans (BY.out.mono B5.out.size)))
  have BW6 := keep (B5.out.trans (BY.out.mono B5.out.size))
  have hpl : place ns key seq ≤ ns.length := Nat.le_trans (Sk.at_cut HM.out.mem.up ⟨key, seq, gone, val⟩).1 (by simp)
  obtain ⟨hla, hhi⟩ := last_all HM.out.mem.tall hpl
  have k0 := AC.out 0 (by decide)
  rw [hla] at k0
  have k1 := MW.out.mem.chain.at_ hhi (show 0 < 12 by decide)
  rw [nxt_all HM.out.mem.tall] at k1
  simp only [Nat.add_zero] at k1
  have gs : w.heap.size < w5.heap.size := Nat.lt_of_lt_of_le (Array.getElem?_eq_some_iff.1 g1.out).1 f5.out.size
  have G6 : Hid (W6.heap[w.heap.size]? = some (.cells #[.slice kp key.length kc, .int .i64 seq, .bool gone, .slice vp val.length vc] 28)) := (BY.out.block _ gs).trans ((f5.out.block _ (Array.getElem?_eq_some_iff.1 g1.out).1).trans g1.out)
  have r0 : W6.cell? ⟨w.heap.size, 0, none⟩ = some (.slice kp key.length kc) := cell_of_row _ _ _ _ _ _ G6.out
  have r1 : W6.cell? ⟨w.heap.size, 1, none⟩ = some (.int .i64 seq) := cell_of_row _ _ _ _ _ _ G6.out
  have r2 : W6.cell? ⟨w.heap.size, 2, none⟩ = some (.bool gone) := cell_of_row _ _ _ _ _ _ G6.out
  have r3 : W6.cell? ⟨w.heap.size, 3, none⟩ = some (.slice vp val.length vc) := cell_of_row _ _ _ _ _ _ G6.out
  obtain ⟨K, hK⟩ : ∃ K, place ns key seq = K := ⟨_, rfl⟩
  rw [hK] at k0 k1 hpl AC
  have HK := keep hK
  obtain ⟨Bk, hBk⟩ : ∃ Bk, blk b ns K = Bk := ⟨_, rfl⟩
  rw [hBk] at k0 k1
  unfold ptr at k0
  have HPL := keep hpl
  clear hBk hla hhi hpl hK
  have HX := keep hX
  unfold nils at hX
  clear hc12 hcj hb5 d0 d1 d2 d3 SK AI
  have KTH : Hid (∀ m, ns[K]? = some m → ¬ (m.x.e.key = key ∧ m.x.e.seq = seq)) := fun m hm hq => by
    have : Sk.there (ents ns) ⟨key, seq, gone, val⟩ = true := (Sk.there_at HM.out.mem.up ⟨key, seq, gone, val⟩).2 ⟨m.x.e, by
      show (ents ns)[place ns key seq]? = _
      rw [HK.out]; unfold ents; rw [List.getElem?_map, hm]; rfl, hq.1, hq.2⟩
    rw [HTH.out] at this
    cases this
  unfold nodeAt at k1
  cases hnk : ns[K]? with
  | none =>
    rw [hnk] at k1
    simp only at k1
    clear hnk
    go_wp2_with (refine wpList_store_mid rfl _ _ _ rfl _ _ c.toList.toArray rfl rfl TH.out (by rw [infoA]; simp [C12.out]) ON.out ?_; rw [hW6]; clear hX hW6)
    go_quiet (fail)
    obtain ⟨W7, hW7⟩ : ∃ W7, W6.drewN nq = W7 := ⟨_, rfl⟩
    rw [hW7]
    have B67 : Hid (Below W6.heap.size W6 W7) := by rw [← hW7]; exact below_drewN (Below.refl _ _) _
    clear hW7
    have BW7 := keep (BW6.out.trans (B67.out.mono BW6.out.size))
    have t0 := below_cell B67.out r0
    have t1 := below_cell B67.out r1
    have t2 := below_cell B67.out r2
    have t3 := below_cell B67.out r3
    have CP := keep (copied_any ⟨kp, kc, vp, vc, ⟨key, seq, gone, val⟩⟩ W7 (by simp only; omega) (by simp only; omega) (entKind_ok.below HXS.out BW7.out))
    unfold ev at CP
    simp only at CP
    clear r0 r1 r2 r3 k0 k1
    go_wp2_with fail
    refine CP.out.mono ?_
    rintro e w8 ⟨y, rfl, hye, hyo, hb8⟩
    have B78 := keep hb8
    have BW8 := keep (BW7.out.trans (hb8.mono BW7.out.size))
    obtain ⟨ykp, ykc, yvp, yvc, ⟨ykey, yseq, ygone, yval⟩⟩ := y
    have HYE : Hid (ykey = key ∧ yseq = seq ∧ ygone = gone ∧ yval = val) := by
      have : (⟨ykey, yseq, ygone, yval⟩ : Ent) = ⟨key, seq, gone, val⟩ := hye
      cases this
      exact ⟨rfl, rfl, rfl, rfl⟩
    have HYO := keep hyo
    have NBY := keep (hyo.newB.low BW7.out.size)
    simp only
    clear hye hyo hb8 CP t0 t1 t2 t3
    obtain ⟨W9, hW9⟩ : ∃ W9, w8.alloc (.cells #[.slice ykp ykey.length ykc, .int .i64 yseq, .bool ygone, .slice yvp yval.length yvc, .pointer none, .pointer none, .pointer none, .pointer none, .pointer none, .pointer none, .pointer none, .pointer none, .pointer none, .pointer none, .pointer none, .pointer none] 49) = W9 := ⟨_, rfl⟩
    have g9 : Hid (W9.heap[w8.heap.size]? = some (.cells #[.slice ykp ykey.length ykc, .int .i64 yseq, .bool ygone, .slice yvp yval.length yvc, .pointer none, .pointer none, .pointer none, .pointer none, .pointer none, .pointer none, .pointer none, .pointer none, .pointer none, .pointer none, .pointer none, .pointer none] 49 (0, 0))) := by rw [← hW9]; exact heap_alloc_new w8 _
    have B89 : Hid (Below w8.heap.size w8 W9) := by rw [← hW9]; exact (Below.refl _ _).alloc (Nat.le_refl _) _
    have BW9 := keep (BW8.out.trans (B89.out.mono BW8.out.size))
    have OY : Hid (OwnE B W9 ⟨ykp, ykc, yvp, yvc, ⟨ykey, yseq, ygone, yval⟩⟩) := ((HYO.out.base (Nat.le_trans hBw BW7.out.size))).block B89.out
    have R0 := keep (HM.out.lay BW9.out K w8.heap.size ⟨ykp, ykc, yvp, yvc, ⟨ykey, yseq, ygone, yval⟩⟩ BW8.out.size g9.out OY.out)
    have B69 := keep (B67.out.trans ((B78.out.trans (B89.out.mono B78.out.size)).mono B67.out.size))
    have A9 : Hid (∀ j, j < 12 → W9.cell? ⟨w5.heap.size, j, none⟩ = some (ptr (blk b ns (lastAt ns j K)))) := fun j hj => below_cell B69.out (AC.out j hj)
    have s0 : Hid (W9.cell? ⟨w.heap.size, 0, none⟩ = some (.slice kp key.length kc)) := below_cell B69.out (cell_of_row _ _ _ _ _ _ G6.out)
    have s3 : Hid (W9.cell? ⟨w.heap.size, 3, none⟩ = some (.slice vp val.length vc)) := below_cell B69.out (cell_of_row _ _ _ _ _ _ G6.out)
    have gA : Hid (w.heap.size < w5.heap.size ∧ w5.heap.size < w8.heap.size) := ⟨gs, by
      have h1 := BY.out.size
      have h2 : w5.heap.size < W6.heap.size := World.block_lt_of_cell? W6 _ (AC.out 0 (by decide))
      have h3 := B67.out.size
      have h4 := B78.out.size
      omega⟩
    have hg12 : (hgt : Int) ≤ 12 := by omega
    go_wp2
    clear hW9
    go_loopw [63] (fun i wr => ∃ k : Nat, k ≤ hgt ∧ i = .int .i64 (k : Int) ∧ Hid (Rise B W9 b (ns.take K) (ns.drop K) w8.heap.size ⟨ykp, ykc, yvp, yvc, ⟨ykey, yseq, ygone, yval⟩⟩ k wr)) (fun i _ => hgt - (intOf i).toNat)
    case atStart => exact ⟨0, Nat.zero_le _, rfl, R0⟩
    case round =>
      clear R0
      obtain ⟨k, hk, rfl, hR⟩ := hrel
      have notf : Hid (∀ q, w.heap.size ≤ q → q < w8.heap.size → ¬ foot b (ns.take K ++ ⟨w8.heap.size, ⟨ykp, ykc, yvp, yvc, ⟨ykey, yseq, ygone, yval⟩⟩, k⟩ :: ns.drop K) q) := fun q h1 h2 hq => by
        rcases hq with e | ⟨n, hn, e⟩
        · have := HM.out.lt (.inl rfl : foot b ns b); omega
        · have hc : n.g = w8.heap.size ∨ n ∈ ns := by
            rcases List.mem_append.1 hn with h3 | h3
            · exact .inr (List.mem_of_mem_take h3)
            · rcases List.mem_cons.1 h3 with rfl | h3
              · exact .inl rfl
              · exact .inr (List.mem_of_mem_drop h3)
          rcases hc with h3 | h3
          · omega
          · have := HM.out.lt (.inr ⟨n, h3, rfl⟩ : foot b ns n.g); omega
      by_cases hlt : k < hgt
      · have hk12 : k < 12 := by omega
        have hl1 : (k : Int) < (hgt : Int) := by omega
        have hl0 : (0 : Int) ≤ (k : Int) := by omega
        have hl2 : (k : Int) < 12 := by omega
        have NX := keep (hR.out.next hk12)
        obtain ⟨o, ho⟩ := nxt_ptr (ns.drop K) k
        have hWne : whose b (ns.take K) (ns.drop K) ⟨w8.heap.size, ⟨ykp, ykc, yvp, yvc, ⟨ykey, yseq, ygone, yval⟩⟩, k⟩ k ≠ w8.heap.size := whose_ne hR.out.lone
        have c1 : wr.cell? ⟨w5.heap.size, k, none⟩ = some (ptr (whose b (ns.take K) (ns.drop K) ⟨w8.heap.size, ⟨ykp, ykc, yvp, yvc, ⟨ykey, yseq, ygone, yval⟩⟩, k⟩ k)) := by
          rw [hR.out.kept.cell (p := ⟨w5.heap.size, k, none⟩) (World.block_lt_of_cell? W9 _ (A9.out k hk12)) (notf.out _ (Nat.le_of_lt gA.out.1) gA.out.2), A9.out k hk12]
          congr 2
          have hsp : ns.take K ++ ns.drop K = ns := List.take_append_drop _ _
          have hlk : (ns.take K).length = K := by rw [List.length_take]; have := HPL.out; omega
          unfold whose
          rw [hlk]
          conv => lhs; rw [← hsp]
          rw [last_same (ns.take K) (ns.drop K) (⟨w8.heap.size, ⟨ykp, ykc, yvp, yvc, ⟨ykey, yseq, ygone, yval⟩⟩, k⟩ :: ns.drop K) k K (by omega)]
          exact blk_same b (ns.take K) _ _ _ (by rw [hlk]; exact lastAt_le _ _ _)
        have c2 : wr.cell? ⟨whose b (ns.take K) (ns.drop K) ⟨w8.heap.size, ⟨ykp, ykc, yvp, yvc, ⟨ykey, yseq, ygone, yval⟩⟩, k⟩ k, 4 + k, none⟩ = some (.pointer o) := by
          rw [← ho, ← last_next (pre := ns.take K) (post := ns.drop K) (n := ⟨w8.heap.size, ⟨ykp, ykc, yvp, yvc, ⟨ykey, yseq, ygone, yval⟩⟩, k⟩) (i := k) (by simp)]
          exact hR.out.chain.at_ (lastAt_high _ _ _) hk12
        have c3 : wr.cell? ⟨w8.heap.size, 4 + k, none⟩ = some (.pointer none) := by
          have := hR.out.chain.links _ _ at_new k hk12
          rwa [if_neg (by simp)] at this
        have z1 := hR.out.frozen hR.out.mineF (4 + k)
        have z2 := hR.out.frozen (foot_old (whose_foot b (ns.take K) (ns.drop K) ⟨w8.heap.size, ⟨ykp, ykc, yvp, yvc, ⟨ykey, yseq, ygone, yval⟩⟩, k⟩ k)) (4 + k)
        rw [ho] at NX
        obtain ⟨Wh, hWh⟩ : ∃ Wh, whose b (ns.take K) (ns.drop K) ⟨w8.heap.size, ⟨ykp, ykc, yvp, yvc, ⟨ykey, yseq, ygone, yval⟩⟩, k⟩ k = Wh := ⟨_, rfl⟩
        rw [hWh] at NX c1 c2 z2 hWne
        unfold ptr at c1 NX
        clear hWh ho
        obtain ⟨wx, hwx⟩ : ∃ wx, (wr.setCell ⟨w8.heap.size, 4 + k, none⟩ (.pointer o)).drew = wx := ⟨_, rfl⟩
        have x1 : wx.cell? ⟨w5.heap.size, k, none⟩ = some (.pointer (some ⟨Wh, 0, none⟩)) := by
          rw [← hwx, cell_drewB, set_cell_far (by intro e; simp only [Addr.mk.injEq, and_true] at e; have := gA.out.2; omega)]
          exact c1
        have x2 : wx.cell? ⟨Wh, 4 + k, none⟩ = some (.pointer o) := by
          rw [← hwx, cell_drewB, set_cell_far (by intro e; simp only [Addr.mk.injEq, and_true] at e; exact hWne e.symm)]
          exact c2
        have x3 : wx.frozen? ⟨Wh, 4 + k, none⟩ = false := by
          rw [← hwx, frozen_drewB, World.frozen?_setCell]
          exact z2
        have NX2 : Hid (Rise B W9 b (ns.take K) (ns.drop K) w8.heap.size ⟨ykp, ykc, yvp, yvc, ⟨ykey, yseq, ygone, yval⟩⟩ (k + 1) (wx.setCell ⟨Wh, 4 + k, none⟩ (.pointer (some ⟨w8.heap.size, 0, none⟩)))) := by
          rw [← hwx]
          exact Rise.drew NX.out
        have HWX := keep hwx
        clear hwx
        go_wp2_with fail
        go_region_held3 (fun w' => w'.cell? ⟨w5.heap.size, k, none⟩ = some (.pointer (some ⟨Wh, 0, none⟩)) ∧ w'.cell? ⟨Wh, 4 + k, none⟩ = some (.pointer o)) (first | exact ⟨c1, c2⟩ | (rw [HWX.out]; exact ⟨x1, x2⟩)) (fail)
        rw [HWX.out]
        clear c1 c2 c3 z1 z2 NX hWne HWX
        go_wp2
        go_roundw
        case rel => exact ⟨k + 1, by omega, by go_num, NX2⟩
        case measure => simp [intOf]; omega
      · obtain rfl : k = hgt := by omega
        have hl1 : ¬ (k : Int) < (k : Int) := by omega
        have hcn : wr.cell? ⟨b, 16, none⟩ = some (.int .i64 (ns.length : Int)) := hR.out.cnt.trans (HM.out.below BW9.out).count
        have hsz : wr.cell? ⟨b, 17, none⟩ = some (.int .i64 (Sk.size (ents ns) : Int)) := hR.out.siz.trans (HM.out.below BW9.out).size
        have u0 : wr.cell? ⟨w.heap.size, 0, none⟩ = some (.slice kp key.length kc) := by
          rw [hR.out.kept.cell (p := ⟨w.heap.size, 0, none⟩) (World.block_lt_of_cell? W9 _ s0.out) (notf.out _ (Nat.le_refl _) (by show w.heap.size < w8.heap.size; have := gA.out; omega))]
          exact s0.out
        have u3 : wr.cell? ⟨w.heap.size, 3, none⟩ = some (.slice vp val.length vc) := by
          rw [hR.out.kept.cell (p := ⟨w.heap.size, 3, none⟩) (World.block_lt_of_cell? W9 _ s3.out) (notf.out _ (Nat.le_refl _) (by show w.heap.size < w8.heap.size; have := gA.out; omega))]
          exact s3.out
        have hbw : ¬ b = w.heap.size := fun e => by have := HM.out.lt (.inl rfl : foot b ns b); omega
        have zb := hR.out.frozen (.inl rfl : foot b _ b) 16
        have zs := hR.out.frozen (.inl rfl : foot b _ b) 17
        have hsl := Sk.size_le (l := ents ns) (fun e he => by
          obtain ⟨n, hn, rfl⟩ := List.mem_map.1 he
          exact HM.out.good n hn)
        have hel : (ents ns).length = ns.length := by unfold ents; simp
        rw [hel] at hsl
        have hb1 : (ns.length : Int) ≤ 1000000 := by omega
        obtain ⟨Z, hZ⟩ : ∃ Z, Sk.size (ents ns) = Z := ⟨_, rfl⟩
        have HZ := keep hZ
        rw [hZ] at hsz hsl
        have hb2 : (Z : Int) ≤ 1096000000 := by omega
        obtain ⟨L, hL⟩ : ∃ L, ns.length = L := ⟨_, rfl⟩
        have HL := keep hL
        rw [hL] at hcn hb1
        obtain ⟨kl, hkl2⟩ : ∃ kl, key.length = kl := ⟨_, rfl⟩
        obtain ⟨vl, hvl2⟩ : ∃ vl, val.length = vl := ⟨_, rfl⟩
        have HKL := keep hkl2
        have HVL := keep hvl2
        have hq1 : (kl : Int) ≤ 64 := by omega
        have hq2 : (vl : Int) ≤ 1024 := by omega
        rw [hkl2] at u0
        rw [hvl2] at u3
        have hx1 : ((wr.setCell ⟨b, 16, none⟩ (.int .i64 ((L : Int) + 1))).cell? ⟨b, 17, none⟩) = some (.int .i64 (Z : Int)) := by
          rw [set_cell_far (by intro e; simp only [Addr.mk.injEq, and_true] at e; omega)]; exact hsz
        have hx2 : ((wr.setCell ⟨b, 16, none⟩ (.int .i64 ((L : Int) + 1))).cell? ⟨w.heap.size, 0, none⟩) = some (.slice kp kl kc) := by
          rw [set_cell_far (by intro e; simp only [Addr.mk.injEq, and_true] at e; omega)]; exact u0
        have hx3 : ((wr.setCell ⟨b, 16, none⟩ (.int .i64 ((L : Int) + 1))).cell? ⟨w.heap.size, 3, none⟩) = some (.slice vp vl vc) := by
          rw [set_cell_far (by intro e; simp only [Addr.mk.injEq, and_true] at e; omega)]; exact u3
        have hx4 : (wr.setCell ⟨b, 16, none⟩ (.int .i64 ((L : Int) + 1))).frozen? ⟨b, 17, none⟩ = false := by rw [World.frozen?_setCell]; exact zs
        obtain ⟨wy, hwy⟩ : ∃ wy, wr.setCell ⟨b, 16, none⟩ (.int .i64 ((L : Int) + 1)) = wy := ⟨_, rfl⟩
        rw [hwy] at hx1 hx2 hx3 hx4
        have HCN := keep hcn
        have HSZ := keep hsz
        have HWY := keep hwy
        clear hZ hL hkl2 hvl2 u0 u3 hsz hkl hvl
        go_wp2_with fail
        go_region
        go_wp2
        go_ret
        have hy : (⟨ykey, yseq, ygone, yval⟩ : Ent) = ⟨key, seq, gone, val⟩ := by
          obtain ⟨e1, e2, e3, e4⟩ := HYE.out
          rw [e1, e2, e3, e4]
        have hnew : ents (ns.take K ++ ⟨w8.heap.size, ⟨ykp, ykc, yvp, yvc, ⟨ykey, yseq, ygone, yval⟩⟩, k⟩ :: ns.drop K) = Sk.ins (ents ns) ⟨key, seq, gone, val⟩ := by
          rw [ents_ins]
          unfold Sk.ins
          rw [← place_at, HK.out]
          simp only
          rw [hy]
        have hcls : ∀ n ∈ ns.take K ++ (⟨w8.heap.size, ⟨ykp, ykc, yvp, yvc, ⟨ykey, yseq, ygone, yval⟩⟩, k⟩ : Nd) :: ns.drop K, n = ⟨w8.heap.size, ⟨ykp, ykc, yvp, yvc, ⟨ykey, yseq, ygone, yval⟩⟩, k⟩ ∨ n ∈ ns := fun n hn => by
          rcases List.mem_append.1 hn with h3 | h3
          · exact .inr (List.mem_of_mem_take h3)
          · rcases List.mem_cons.1 h3 with h3 | h3
            · exact .inl h3
            · exact .inr (List.mem_of_mem_drop h3)
        have hgw : w.heap.size ≤ w8.heap.size := BW8.out.size
        have D := hR.out.done (fun n hn => by
            rcases hcls n hn with rfl | h3
            · show 0 < k; omega
            · exact HM.out.mem.tall n h3) (by rw [hnew]; exact Sk.ins_up HM.out.mem.up HTH.out) (fun n hn => by
            rcases hcls n hn with rfl | h3
            · show Sk.may ⟨ykey, yseq, ygone, yval⟩ = true
              rw [hy]; exact HMAY.out
            · exact HM.out.good n h3) (fun q hq => by
            rcases hq with h3 | ⟨n, hn, h3⟩
            · exact HM.out.far q (.inl h3)
            · rcases hcls n hn with rfl | h4
              · have h5 : w8.heap.size = q := h3
                omega
              · exact HM.out.far q (.inr ⟨n, h4, h3⟩)) (by rw [HCN.out]; rfl) (by rw [HSZ.out]; rfl)
        have hlen : ((ns.take K ++ (⟨w8.heap.size, ⟨ykp, ykc, yvp, yvc, ⟨ykey, yseq, ygone, yval⟩⟩, k⟩ : Nd) :: ns.drop K).length : Int) = (L : Int) + 1 := by
          have h3 : (ns.take K ++ (⟨w8.heap.size, ⟨ykp, ykc, yvp, yvc, ⟨ykey, yseq, ygone, yval⟩⟩, k⟩ : Nd) :: ns.drop K).length = ns.length + 1 := by
            rw [List.length_append, List.length_cons, List.length_take, List.length_drop]; omega
          rw [h3, HL.out]; omega
        have hsize : (Sk.size (ents (ns.take K ++ ⟨w8.heap.size, ⟨ykp, ykc, yvp, yvc, ⟨ykey, yseq, ygone, yval⟩⟩, k⟩ :: ns.drop K)) : Int) = (Z : Int) + ((kl : Int) + (vl : Int) + 8) := by
          rw [hnew, Sk.size_ins, HZ.out]
          simp only
          rw [HKL.out, HVL.out]
          omega
        rw [hlen, hsize, HWY.out] at D
        rw [HK.out]
        exact ⟨rfl, ⟨w8.heap.size, ⟨ykp, ykc, yvp, yvc, ⟨ykey, yseq, ygone, yval⟩⟩, k⟩, hy, rfl, hgw, D.1.below ((Below.refl _ _).drew), ((Kept.of_below BW9.out).trans' D.2 (fun q hq hf => by
          rcases hf with h3 | ⟨n, hn, h3⟩
          · exact .inl h3
          · rcases hcls n hn with rfl | h4
            · have h5 : w8.heap.size = q := h3
              omega
            · exact .inr ⟨n, h4, h3⟩)).drew, NBY.out⟩
  | some m =>
    rw [hnk] at k1
    simp only at k1
    have hent := MW.out.mem.chain.ents m (List.mem_of_getElem? hnk)
    have hno := KTH.out m hnk
    obtain ⟨mg, ⟨xkp, xkc, xvp, xvc, ⟨xkey, xseq, xgone, xval⟩⟩, nh⟩ := m
    simp only at hno
    have q0 : W6.cell? ⟨mg, 0, none⟩ = some (.slice xkp xkey.length xkc) := hent.1 0 _ rfl
    have q1 : W6.cell? ⟨mg, 1, none⟩ = some (.int .i64 xseq) := hent.1 1 _ rfl
    clear hnk
    by_cases hsq : xseq = seq
    · have hsq2 := hsq.symm
      subst hsq2
      clear hsq
      have EQ : Hid (∀ n, Calls Try.prog 19 #[.slice xkp xkey.length xkc, .slice kp key.length kc] (W6.drewN n) fun e w' => e = .returned (.bool false) ∧ w' = W6.drewN n) := fun n => by
        have := equal_any xkp xkey.length xkc xkey kp key.length kc key (W6.drewN n) (Src.below hent.2.1 (below_drewN (Below.refl _ _) _)) ((HKS.out.below BW6.out).below (below_drewN (Below.refl _ _) _))
        rwa [decide_eq_false (fun e => hno ⟨e, rfl⟩)] at this
      clear hent hno
      go_wp2_with (refine wpList_store_mid rfl _ _ _ rfl _ _ c.toList.toArray rfl rfl TH.out (by rw [infoA]; simp [C12.out]) ON.out ?_; rw [hW6]; clear hX hW6)
      go_quiet ((go_at_call 19; exact Calls.quiet_of_same (EQ.out _)))
      obtain ⟨W7, hW7⟩ : ∃ W7, W6.drewN nq = W7 := ⟨_, rfl⟩
      rw [hW7]
      have B67 : Hid (Below W6.heap.size W6 W7) := by rw [← hW7]; exact below_drewN (Below.refl _ _) _
      clear hW7
      have BW7 := keep (BW6.out.trans (B67.out.mono BW6.out.size))
      have t0 := below_cell B67.out r0
      have t1 := below_cell B67.out r1
      have t2 := below_cell B67.out r2
      have t3 := below_cell B67.out r3
      have CP := keep (copied_any ⟨kp, kc, vp, vc, ⟨key, seq, gone, val⟩⟩ W7 (by simp only; omega) (by simp only; omega) (entKind_ok.below HXS.out BW7.out))
      unfold ev at CP
      simp only at CP
      clear r0 r1 r2 r3 k0 k1
      go_wp2_with fail
      refine CP.out.mono ?_
      rintro e w8 ⟨y, rfl, hye, hyo, hb8⟩
      have B78 := keep hb8
      have BW8 := keep (BW7.out.trans (hb8.mono BW7.out.size))
      obtain ⟨ykp, ykc, yvp, yvc, ⟨ykey, yseq, ygone, yval⟩⟩ := y
      have HYE : Hid (ykey = key ∧ yseq = seq ∧ ygone = gone ∧ yval = val) := by
        have : (⟨ykey, yseq, ygone, yval⟩ : Ent) = ⟨key, seq, gone, val⟩ := hye
        cases this
        exact ⟨rfl, rfl, rfl, rfl⟩
      have HYO := keep hyo
      have NBY := keep (hyo.newB.low BW7.out.size)
      simp only
      clear hye hyo hb8 CP t0 t1 t2 t3
      obtain ⟨W9, hW9⟩ : ∃ W9, w8.alloc (.cells #[.slice ykp ykey.length ykc, .int .i64 yseq, .bool ygone, .slice yvp yval.length yvc, .pointer none, .pointer none, .pointer none, .pointer none, .pointer none, .pointer none, .pointer none, .pointer none, .pointer none, .pointer none, .pointer none, .pointer none] 49) = W9 := ⟨_, rfl⟩
      have g9 : Hid (W9.heap[w8.heap.size]? = some (.cells #[.slice ykp ykey.length ykc, .int .i64 yseq, .bool ygone, .slice yvp yval.length yvc, .pointer none, .pointer none, .pointer none, .pointer none, .pointer none, .pointer none, .pointer none, .pointer none, .pointer none, .pointer none, .pointer none, .pointer none] 49 (0, 0))) := by rw [← hW9]; exact heap_alloc_new w8 _
      have B89 : Hid (Below w8.heap.size w8 W9) := by rw [← hW9]; exact (Below.refl _ _).alloc (Nat.le_refl _) _
      have BW9 := keep (BW8.out.trans (B89.out.mono BW8.out.size))
      have OY : Hid (OwnE B W9 ⟨ykp, ykc, yvp, yvc, ⟨ykey, yseq, ygone, yval⟩⟩) := ((HYO.out.base (Nat.le_trans hBw BW7.out.size))).block B89.out
      have R0 := keep (HM.out.lay BW9.out K w8.heap.size ⟨ykp, ykc, yvp, yvc, ⟨ykey, yseq, ygone, yval⟩⟩ BW8.out.size g9.out OY.out)
      have B69 := keep (B67.out.trans ((B78.out.trans (B89.out.mono B78.out.size)).mono B67.out.size))
      have A9 : Hid (∀ j, j < 12 → W9.cell? ⟨w5.heap.size, j, none⟩ = some (ptr (blk b ns (lastAt ns j K)))) := fun j hj => below_cell B69.out (AC.out j hj)
      have s0 : Hid (W9.cell? ⟨w.heap.size, 0, none⟩ = some (.slice kp key.length kc)) := below_cell B69.out (cell_of_row _ _ _ _ _ _ G6.out)
      have s3 : Hid (W9.cell? ⟨w.heap.size, 3, none⟩ = some (.slice vp val.length vc)) := below_cell B69.out (cell_of_row _ _ _ _ _ _ G6.out)
      have gA : Hid (w.heap.size < w5.heap.size ∧ w5.heap.size < w8.heap.size) := ⟨gs, by
        have h1 := BY.out.size
        have h2 : w5.heap.size < W6.heap.size := World.block_lt_of_cell? W6 _ (AC.out 0 (by decide))
        have h3 := B67.out.size
        have h4 := B78.out.size
        omega⟩
      have hg12 : (hgt : Int) ≤ 12 := by omega
      go_wp2
      clear hW9
      go_loopw [63] (fun i wr => ∃ k : Nat, k ≤ hgt ∧ i = .int .i64 (k : Int) ∧ Hid (Rise B W9 b (ns.take K) (ns.drop K) w8.heap.size ⟨ykp, ykc, yvp, yvc, ⟨ykey, yseq, ygone, yval⟩⟩ k wr)) (fun i _ => hgt - (intOf i).toNat)
      case atStart => exact ⟨0, Nat.zero_le _, rfl, R0⟩
      case round =>
        clear R0
        obtain ⟨k, hk, rfl, hR⟩ := hrel
        have notf : Hid (∀ q, w.heap.size ≤ q → q < w8.heap.size → ¬ foot b (ns.take K ++ ⟨w8.heap.size, ⟨ykp, ykc, yvp, yvc, ⟨ykey, yseq, ygone, yval⟩⟩, k⟩ :: ns.drop K) q) := fun q h1 h2 hq => by
          rcases hq with e | ⟨n, hn, e⟩
          · have := HM.out.lt (.inl rfl : foot b ns b); omega
          · have hc : n.g = w8.heap.size ∨ n ∈ ns := by
              rcases List.mem_append.1 hn with h3 | h3
              · exact .inr (List.mem_of_mem_take h3)
              · rcases List.mem_cons.1 h3 with rfl | h3
                · exact .inl rfl
                · exact .inr (List.mem_of_mem_drop h3)
            rcases hc with h3 | h3
            · omega
            · have := HM.out.lt (.inr ⟨n, h3, rfl⟩ : foot b ns n.g); omega
        by_cases hlt : k < hgt
        · have hk12 : k < 12 := by omega
          have hl1 : (k : Int) < (hgt : Int) := by omega
          have hl0 : (0 : Int) ≤ (k : Int) := by omega
          have hl2 : (k : Int) < 12 := by omega
          have NX := keep (hR.out.next hk12)
          obtain ⟨o, ho⟩ := nxt_ptr (ns.drop K) k
          have hWne : whose b (ns.take K) (ns.drop K) ⟨w8.heap.size, ⟨ykp, ykc, yvp, yvc, ⟨ykey, yseq, ygone, yval⟩⟩, k⟩ k ≠ w8.heap.size := whose_ne hR.out.lone
          have c1 : wr.cell? ⟨w5.heap.size, k, none⟩ = some (ptr (whose b (ns.take K) (ns.drop K) ⟨w8.heap.size, ⟨ykp, ykc, yvp, yvc, ⟨ykey, yseq, ygone, yval⟩⟩, k⟩ k)) := by
            rw [hR.out.kept.cell (p := ⟨w5.heap.size, k, none⟩) (World.block_lt_of_cell? W9 _ (A9.out k hk12)) (notf.out _ (Nat.le_of_lt gA.out.1) gA.out.2), A9.out k hk12]
            congr 2
            have hsp : ns.take K ++ ns.drop K = ns := List.take_append_drop _ _
            have hlk : (ns.take K).length = K := by rw [List.length_take]; have := HPL.out; omega
            unfold whose
            rw [hlk]
            conv => lhs; rw [← hsp]
            rw [last_same (ns.take K) (ns.drop K) (⟨w8.heap.size, ⟨ykp, ykc, yvp, yvc, ⟨ykey, yseq, ygone, yval⟩⟩, k⟩ :: ns.drop K) k K (by omega)]
            exact blk_same b (ns.take K) _ _ _ (by rw [hlk]; exact lastAt_le _ _ _)
          have c2 : wr.cell? ⟨whose b (ns.take K) (ns.drop K) ⟨w8.heap.size, ⟨ykp, ykc, yvp, yvc, ⟨ykey, yseq, ygone, yval⟩⟩, k⟩ k, 4 + k, none⟩ = some (.pointer o) := by
            rw [← ho, ← last_next (pre := ns.take K) (post := ns.drop K) (n := ⟨w8.heap.size, ⟨ykp, ykc, yvp, yvc, ⟨ykey, yseq, ygone, yval⟩⟩, k⟩) (i := k) (by simp)]
            exact hR.out.chain.at_ (lastAt_high _ _ _) hk12
          have c3 : wr.cell? ⟨w8.heap.size, 4 + k, none⟩ = some (.pointer none) := by
            have := hR.out.chain.links _ _ at_new k hk12
            rwa [if_neg (by simp)] at this
          have z1 := hR.out.frozen hR.out.mineF (4 + k)
          have z2 := hR.out.frozen (foot_old (whose_foot b (ns.take K) (ns.drop K) ⟨w8.heap.size, ⟨ykp, ykc, yvp, yvc, ⟨ykey, yseq, ygone, yval⟩⟩, k⟩ k)) (4 + k)
          rw [ho] at NX
          obtain ⟨Wh, hWh⟩ : ∃ Wh, whose b (ns.take K) (ns.drop K) ⟨w8.heap.size, ⟨ykp, ykc, yvp, yvc, ⟨ykey, yseq, ygone, yval⟩⟩, k⟩ k = Wh := ⟨_, rfl⟩
          rw [hWh] at NX c1 c2 z2 hWne
          unfold ptr at c1 NX
          clear hWh ho
          obtain ⟨wx, hwx⟩ : ∃ wx, (wr.setCell ⟨w8.heap.size, 4 + k, none⟩ (.pointer o)).drew = wx := ⟨_, rfl⟩
          have x1 : wx.cell? ⟨w5.heap.size, k, none⟩ = some (.pointer (some ⟨Wh, 0, none⟩)) := by
            rw [← hwx, cell_drewB, set_cell_far (by intro e; simp only [Addr.mk.injEq, and_true] at e; have := gA.out.2; omega)]
            exact c1
          have x2 : wx.cell? ⟨Wh, 4 + k, none⟩ = some (.pointer o) := by
            rw [← hwx, cell_drewB, set_cell_far (by intro e; simp only [Addr.mk.injEq, and_true] at e; exact hWne e.symm)]
            exact c2
          have x3 : wx.frozen? ⟨Wh, 4 + k, none⟩ = false := by
            rw [← hwx, frozen_drewB, World.frozen?_setCell]
            exact z2
          have NX2 : Hid (Rise B W9 b (ns.take K) (ns.drop K) w8.heap.size ⟨ykp, ykc, yvp, yvc, ⟨ykey, yseq, ygone, yval⟩⟩ (k + 1) (wx.setCell ⟨Wh, 4 + k, none⟩ (.pointer (some ⟨w8.heap.size, 0, none⟩)))) := by
            rw [← hwx]
            exact Rise.drew NX.out
          have HWX := keep hwx
          clear hwx
          go_wp2_with fail
          go_region_held3 (fun w' => w'.cell? ⟨w5.heap.size, k, none⟩ = some (.pointer (some ⟨Wh, 0, none⟩)) ∧ w'.cell? ⟨Wh, 4 + k, none⟩ = some (.pointer o)) (first | exact ⟨c1, c2⟩ | (rw [HWX.out]; exact ⟨x1, x2⟩)) (fail)
          rw [HWX.out]
          clear c1 c2 c3 z1 z2 NX hWne HWX
          go_wp2
          go_roundw
          case rel => exact ⟨k + 1, by omega, by go_num, NX2⟩
          case measure => simp [intOf]; omega
        · obtain rfl : k = hgt := by omega
          have hl1 : ¬ (k : Int) < (k : Int) := by omega
          have hcn : wr.cell? ⟨b, 16, none⟩ = some (.int .i64 (ns.length : Int)) := hR.out.cnt.trans (HM.out.below BW9.out).count
          have hsz : wr.cell? ⟨b, 17, none⟩ = some (.int .i64 (Sk.size (ents ns) : Int)) := hR.out.siz.trans (HM.out.below BW9.out).size
          have u0 : wr.cell? ⟨w.heap.size, 0, none⟩ = some (.slice kp key.length kc) := by
            rw [hR.out.kept.cell (p := ⟨w.heap.size, 0, none⟩) (World.block_lt_of_cell? W9 _ s0.out) (notf.out _ (Nat.le_refl _) (by show w.heap.size < w8.heap.size; have := gA.out; omega))]
            exact s0.out
          have u3 : wr.cell? ⟨w.heap.size, 3, none⟩ = some (.slice vp val.length vc) := by
            rw [hR.out.kept.cell (p := ⟨w.heap.size, 3, none⟩) (World.block_lt_of_cell? W9 _ s3.out) (notf.out _ (Nat.le_refl _) (by show w.heap.size < w8.heap.size; have := gA.out; omega))]
            exact s3.out
          have hbw : ¬ b = w.heap.size := fun e => by have := HM.out.lt (.inl rfl : foot b ns b); omega
          have zb := hR.out.frozen (.inl rfl : foot b _ b) 16
          have zs := hR.out.frozen (.inl rfl : foot b _ b) 17
          have hsl := Sk.size_le (l := ents ns) (fun e he => by
            obtain ⟨n, hn, rfl⟩ := List.mem_map.1 he
            exact HM.out.good n hn)
          have hel : (ents ns).length = ns.length := by unfold ents; simp
          rw [hel] at hsl
          have hb1 : (ns.length : Int) ≤ 1000000 := by omega
          obtain ⟨Z, hZ⟩ : ∃ Z, Sk.size (ents ns) = Z := ⟨_, rfl⟩
          have HZ := keep hZ
          rw [hZ] at hsz hsl
          have hb2 : (Z : Int) ≤ 1096000000 := by omega
          obtain ⟨L, hL⟩ : ∃ L, ns.length = L := ⟨_, rfl⟩
          have HL := keep hL
          rw [hL] at hcn hb1
          obtain ⟨kl, hkl2⟩ : ∃ kl, key.length = kl := ⟨_, rfl⟩
          obtain ⟨vl, hvl2⟩ : ∃ vl, val.length = vl := ⟨_, rfl⟩
          have HKL := keep hkl2
          have HVL := keep hvl2
          have hq1 : (kl : Int) ≤ 64 := by omega
          have hq2 : (vl : Int) ≤ 1024 := by omega
          rw [hkl2] at u0
          rw [hvl2] at u3
          have hx1 : ((wr.setCell ⟨b, 16, none⟩ (.int .i64 ((L : Int) + 1))).cell? ⟨b, 17, none⟩) = some (.int .i64 (Z : Int)) := by
            rw [set_cell_far (by intro e; simp only [Addr.mk.injEq, and_true] at e; omega)]; exact hsz
          have hx2 : ((wr.setCell ⟨b, 16, none⟩ (.int .i64 ((L : Int) + 1))).cell? ⟨w.heap.size, 0, none⟩) = some (.slice kp kl kc) := by
            rw [set_cell_far (by intro e; simp only [Addr.mk.injEq, and_true] at e; omega)]; exact u0
          have hx3 : ((wr.setCell ⟨b, 16, none⟩ (.int .i64 ((L : Int) + 1))).cell? ⟨w.heap.size, 3, none⟩) = some (.slice vp vl vc) := by
            rw [set_cell_far (by intro e; simp only [Addr.mk.injEq, and_true] at e; omega)]; exact u3
          have hx4 : (wr.setCell ⟨b, 16, none⟩ (.int .i64 ((L : Int) + 1))).frozen? ⟨b, 17, none⟩ = false := by rw [World.frozen?_setCell]; exact zs
          obtain ⟨wy, hwy⟩ : ∃ wy, wr.setCell ⟨b, 16, none⟩ (.int .i64 ((L : Int) + 1)) = wy := ⟨_, rfl⟩
          rw [hwy] at hx1 hx2 hx3 hx4
          have HCN := keep hcn
          have HSZ := keep hsz
          have HWY := keep hwy
          clear hZ hL hkl2 hvl2 u0 u3 hsz hkl hvl
          go_wp2_with fail
          go_region
          go_wp2
          go_ret
          have hy : (⟨ykey, yseq, ygone, yval⟩ : Ent) = ⟨key, seq, gone, val⟩ := by
            obtain ⟨e1, e2, e3, e4⟩ := HYE.out
            rw [e1, e2, e3, e4]
          have hnew : ents (ns.take K ++ ⟨w8.heap.size, ⟨ykp, ykc, yvp, yvc, ⟨ykey, yseq, ygone, yval⟩⟩, k⟩ :: ns.drop K) = Sk.ins (ents ns) ⟨key, seq, gone, val⟩ := by
            rw [ents_ins]
            unfold Sk.ins
            rw [← place_at, HK.out]
            simp only
            rw [hy]
          have hcls : ∀ n ∈ ns.take K ++ (⟨w8.heap.size, ⟨ykp, ykc, yvp, yvc, ⟨ykey, yseq, ygone, yval⟩⟩, k⟩ : Nd) :: ns.drop K, n = ⟨w8.heap.size, ⟨ykp, ykc, yvp, yvc, ⟨ykey, yseq, ygone, yval⟩⟩, k⟩ ∨ n ∈ ns := fun n hn => by
            rcases List.mem_append.1 hn with h3 | h3
            · exact .inr (List.mem_of_mem_take h3)
            · rcases List.mem_cons.1 h3 with h3 | h3
              · exact .inl h3
              · exact .inr (List.mem_of_mem_drop h3)
          have hgw : w.heap.size ≤ w8.heap.size := BW8.out.size
          have D := hR.out.done (fun n hn => by
              rcases hcls n hn with rfl | h3
              · show 0 < k; omega
              · exact HM.out.mem.tall n h3) (by rw [hnew]; exact Sk.ins_up HM.out.mem.up HTH.out) (fun n hn => by
              rcases hcls n hn with rfl | h3
              · show Sk.may ⟨ykey, yseq, ygone, yval⟩ = true
                rw [hy]; exact HMAY.out
              · exact HM.out.good n h3) (fun q hq => by
              rcases hq with h3 | ⟨n, hn, h3⟩
              · exact HM.out.far q (.inl h3)
              · rcases hcls n hn with rfl | h4
                · have h5 : w8.heap.size = q := h3
                  omega
                · exact HM.out.far q (.inr ⟨n, h4, h3⟩)) (by rw [HCN.out]; rfl) (by rw [HSZ.out]; rfl)
          have hlen : ((ns.take K ++ (⟨w8.heap.size, ⟨ykp, ykc, yvp, yvc, ⟨ykey, yseq, ygone, yval⟩⟩, k⟩ : Nd) :: ns.drop K).length : Int) = (L : Int) + 1 := by
            have h3 : (ns.take K ++ (⟨w8.heap.size, ⟨ykp, ykc, yvp, yvc, ⟨ykey, yseq, ygone, yval⟩⟩, k⟩ : Nd) :: ns.drop K).length = ns.length + 1 := by
              rw [List.length_append, List.length_cons, List.length_take, List.length_drop]; omega
            rw [h3, HL.out]; omega
          have hsize : (Sk.size (ents (ns.take K ++ ⟨w8.heap.size, ⟨ykp, ykc, yvp, yvc, ⟨ykey, yseq, ygone, yval⟩⟩, k⟩ :: ns.drop K)) : Int) = (Z : Int) + ((kl : Int) + (vl : Int) + 8) := by
            rw [hnew, Sk.size_ins, HZ.out]
            simp only
            rw [HKL.out, HVL.out]
            omega
          rw [hlen, hsize, HWY.out] at D
          rw [HK.out]
          exact ⟨rfl, ⟨w8.heap.size, ⟨ykp, ykc, yvp, yvc, ⟨ykey, yseq, ygone, yval⟩⟩, k⟩, hy, rfl, hgw, D.1.below ((Below.refl _ _).drew), ((Kept.of_below BW9.out).trans' D.2 (fun q hq hf => by
            rcases hf with h3 | ⟨n, hn, h3⟩
            · exact .inl h3
            · rcases hcls n hn with rfl | h4
              · have h5 : w8.heap.size = q := h3
                omega
              · exact .inr ⟨n, h4, h3⟩)).drew, NBY.out⟩
    · have hs1 : ¬ xseq = seq := hsq
      have hs2 : (xseq == seq) = false := by rw [beq_eq_false_iff_ne]; exact hsq
      have hs3 : decide (xseq = seq) = false := decide_eq_false hsq
      clear hent hno hsq
      go_wp2_with (refine wpList_store_mid rfl _ _ _ rfl _ _ c.toList.toArray rfl rfl TH.out (by rw [infoA]; simp [C12.out]) ON.out ?_; rw [hW6]; clear hX hW6)
      go_quiet (fail)
      obtain ⟨W7, hW7⟩ : ∃ W7, W6.drewN nq = W7 := ⟨_, rfl⟩
      rw [hW7]
      have B67 : Hid (Below W6.heap.size W6 W7) := by rw [← hW7]; exact below_drewN (Below.refl _ _) _
      clear hW7
      have BW7 := keep (BW6.out.trans (B67.out.mono BW6.out.size))
      have t0 := below_cell B67.out r0
      have t1 := below_cell B67.out r1
      have t2 := below_cell B67.out r2
      have t3 := below_cell B67.out r3
      have CP := keep (copied_any ⟨kp, kc, vp, vc, ⟨key, seq, gone, val⟩⟩ W7 (by simp only; omega) (by simp only; omega) (entKind_ok.below HXS.out BW7.out))
      unfold ev at CP
      simp only at CP
      clear r0 r1 r2 r3 k0 k1
      go_wp2_with fail
      refine CP.out.mono ?_
      rintro e w8 ⟨y, rfl, hye, hyo, hb8⟩
      have B78 := keep hb8
      have BW8 := keep (BW7.out.trans (hb8.mono BW7.out.size))
      obtain ⟨ykp, ykc, yvp, yvc, ⟨ykey, yseq, ygone, yval⟩⟩ := y
      have HYE : Hid (ykey = key ∧ yseq = seq ∧ ygone = gone ∧ yval = val) := by
        have : (⟨ykey, yseq, ygone, yval⟩ : Ent) = ⟨key, seq, gone, val⟩ := hye
        cases this
        exact ⟨rfl, rfl, rfl, rfl⟩
      have HYO := keep hyo
      have NBY := keep (hyo.newB.low BW7.out.size)
      simp only
      clear hye hyo hb8 CP t0 t1 t2 t3
      obtain ⟨W9, hW9⟩ : ∃ W9, w8.alloc (.cells #[.slice ykp ykey.length ykc, .int .i64 yseq, .bool ygone, .slice yvp yval.length yvc, .pointer none, .pointer none, .pointer none, .pointer none, .pointer none, .pointer none, .pointer none, .pointer none, .pointer none, .pointer none, .pointer none, .pointer none] 49) = W9 := ⟨_, rfl⟩
      have g9 : Hid (W9.heap[w8.heap.size]? = some (.cells #[.slice ykp ykey.length ykc, .int .i64 yseq, .bool ygone, .slice yvp yval.length yvc, .pointer none, .pointer none, .pointer none, .pointer none, .pointer none, .pointer none, .pointer none, .pointer none, .pointer none, .pointer none, .pointer none, .pointer none] 49 (0, 0))) := by rw [← hW9]; exact heap_alloc_new w8 _
      have B89 : Hid (Below w8.heap.size w8 W9) := by rw [← hW9]; exact (Below.refl _ _).alloc (Nat.le_refl _) _
      have BW9 := keep (BW8.out.trans (B89.out.mono BW8.out.size))
      have OY : Hid (OwnE B W9 ⟨ykp, ykc, yvp, yvc, ⟨ykey, yseq, ygone, yval⟩⟩) := ((HYO.out.base (Nat.le_trans hBw BW7.out.size))).block B89.out
      have R0 := keep (HM.out.lay BW9.out K w8.heap.size ⟨ykp, ykc, yvp, yvc, ⟨ykey, yseq, ygone, yval⟩⟩ BW8.out.size g9.out OY.out)
      have B69 := keep (B67.out.trans ((B78.out.trans (B89.out.mono B78.out.size)).mono B67.out.size))
      have A9 : Hid (∀ j, j < 12 → W9.cell? ⟨w5.heap.size, j, none⟩ = some (ptr (blk b ns (lastAt ns j K)))) := fun j hj => below_cell B69.out (AC.out j hj)
      have s0 : Hid (W9.cell? ⟨w.heap.size, 0, none⟩ = some (.slice kp key.length kc)) := below_cell B69.out (cell_of_row _ _ _ _ _ _ G6.out)
      have s3 : Hid (W9.cell? ⟨w.heap.size, 3, none⟩ = some (.slice vp val.length vc)) := below_cell B69.out (cell_of_row _ _ _ _ _ _ G6.out)
      have gA : Hid (w.heap.size < w5.heap.size ∧ w5.heap.size < w8.heap.size) := ⟨gs, by
        have h1 := BY.out.size
        have h2 : w5.heap.size < W6.heap.size := World.block_lt_of_cell? W6 _ (AC.out 0 (by decide))
        have h3 := B67.out.size
        have h4 := B78.out.size
        omega⟩
      have hg12 : (hgt : Int) ≤ 12 := by omega
      go_wp2
      clear hW9
      go_loopw [63] (fun i wr => ∃ k : Nat, k ≤ hgt ∧ i = .int .i64 (k : Int) ∧ Hid (Rise B W9 b (ns.take K) (ns.drop K) w8.heap.size ⟨ykp, ykc, yvp, yvc, ⟨ykey, yseq, ygone, yval⟩⟩ k wr)) (fun i _ => hgt - (intOf i).toNat)
      case atStart => exact ⟨0, Nat.zero_le _, rfl, R0⟩
      case round =>
        clear R0
        obtain ⟨k, hk, rfl, hR⟩ := hrel
        have notf : Hid (∀ q, w.heap.size ≤ q → q < w8.heap.size → ¬ foot b (ns.take K ++ ⟨w8.heap.size, ⟨ykp, ykc, yvp, yvc, ⟨ykey, yseq, ygone, yval⟩⟩, k⟩ :: ns.drop K) q) := fun q h1 h2 hq => by
          rcases hq with e | ⟨n, hn, e⟩
          · have := HM.out.lt (.inl rfl : foot b ns b); omega
          · have hc : n.g = w8.heap.size ∨ n ∈ ns := by
              rcases List.mem_append.1 hn with h3 | h3
              · exact .inr (List.mem_of_mem_take h3)
              · rcases List.mem_cons.1 h3 with rfl | h3
                · exact .inl rfl
                · exact .inr (List.mem_of_mem_drop h3)
            rcases hc with h3 | h3
            · omega
            · have := HM.out.lt (.inr ⟨n, h3, rfl⟩ : foot b ns n.g); omega
        by_cases hlt : k < hgt
        · have hk12 : k < 12 := by omega
          have hl1 : (k : Int) < (hgt : Int) := by omega
          have hl0 : (0 : Int) ≤ (k : Int) := by omega
          have hl2 : (k : Int) < 12 := by omega
          have NX := keep (hR.out.next hk12)
          obtain ⟨o, ho⟩ := nxt_ptr (ns.drop K) k
          have hWne : whose b (ns.take K) (ns.drop K) ⟨w8.heap.size, ⟨ykp, ykc, yvp, yvc, ⟨ykey, yseq, ygone, yval⟩⟩, k⟩ k ≠ w8.heap.size := whose_ne hR.out.lone
          have c1 : wr.cell? ⟨w5.heap.size, k, none⟩ = some (ptr (whose b (ns.take K) (ns.drop K) ⟨w8.heap.size, ⟨ykp, ykc, yvp, yvc, ⟨ykey, yseq, ygone, yval⟩⟩, k⟩ k)) := by
            rw [hR.out.kept.cell (p := ⟨w5.heap.size, k, none⟩) (World.block_lt_of_cell? W9 _ (A9.out k hk12)) (notf.out _ (Nat.le_of_lt gA.out.1) gA.out.2), A9.out k hk12]
            congr 2
            have hsp : ns.take K ++ ns.drop K = ns := List.take_append_drop _ _
            have hlk : (ns.take K).length = K := by rw [List.length_take]; have := HPL.out; omega
            unfold whose
            rw [hlk]
            conv => lhs; rw [← hsp]
            rw [last_same (ns.take K) (ns.drop K) (⟨w8.heap.size, ⟨ykp, ykc, yvp, yvc, ⟨ykey, yseq, ygone, yval⟩⟩, k⟩ :: ns.drop K) k K (by omega)]
            exact blk_same b (ns.take K) _ _ _ (by rw [hlk]; exact lastAt_le _ _ _)
          have c2 : wr.cell? ⟨whose b (ns.take K) (ns.drop K) ⟨w8.heap.size, ⟨ykp, ykc, yvp, yvc, ⟨ykey, yseq, ygone, yval⟩⟩, k⟩ k, 4 + k, none⟩ = some (.pointer o) := by
            rw [← ho, ← last_next (pre := ns.take K) (post := ns.drop K) (n := ⟨w8.heap.size, ⟨ykp, ykc, yvp, yvc, ⟨ykey, yseq, ygone, yval⟩⟩, k⟩) (i := k) (by simp)]
            exact hR.out.chain.at_ (lastAt_high _ _ _) hk12
          have c3 : wr.cell? ⟨w8.heap.size, 4 + k, none⟩ = some (.pointer none) := by
            have := hR.out.chain.links _ _ at_new k hk12
            rwa [if_neg (by simp)] at this
          have z1 := hR.out.frozen hR.out.mineF (4 + k)
          have z2 := hR.out.frozen (foot_old (whose_foot b (ns.take K) (ns.drop K) ⟨w8.heap.size, ⟨ykp, ykc, yvp, yvc, ⟨ykey, yseq, ygone, yval⟩⟩, k⟩ k)) (4 + k)
          rw [ho] at NX
          obtain ⟨Wh, hWh⟩ : ∃ Wh, whose b (ns.take K) (ns.drop K) ⟨w8.heap.size, ⟨ykp, ykc, yvp, yvc, ⟨ykey, yseq, ygone, yval⟩⟩, k⟩ k = Wh := ⟨_, rfl⟩
          rw [hWh] at NX c1 c2 z2 hWne
          unfold ptr at c1 NX
          clear hWh ho
          obtain ⟨wx, hwx⟩ : ∃ wx, (wr.setCell ⟨w8.heap.size, 4 + k, none⟩ (.pointer o)).drew = wx := ⟨_, rfl⟩
          have x1 : wx.cell? ⟨w5.heap.size, k, none⟩ = some (.pointer (some ⟨Wh, 0, none⟩)) := by
            rw [← hwx, cell_drewB, set_cell_far (by intro e; simp only [Addr.mk.injEq, and_true] at e; have := gA.out.2; omega)]
            exact c1
          have x2 : wx.cell? ⟨Wh, 4 + k, none⟩ = some (.pointer o) := by
            rw [← hwx, cell_drewB, set_cell_far (by intro e; simp only [Addr.mk.injEq, and_true] at e; exact hWne e.symm)]
            exact c2
          have x3 : wx.frozen? ⟨Wh, 4 + k, none⟩ = false := by
            rw [← hwx, frozen_drewB, World.frozen?_setCell]
            exact z2
          have NX2 : Hid (Rise B W9 b (ns.take K) (ns.drop K) w8.heap.size ⟨ykp, ykc, yvp, yvc, ⟨ykey, yseq, ygone, yval⟩⟩ (k + 1) (wx.setCell ⟨Wh, 4 + k, none⟩ (.pointer (some ⟨w8.heap.size, 0, none⟩)))) := by
            rw [← hwx]
            exact Rise.drew NX.out
          have HWX := keep hwx
          clear hwx
          go_wp2_with fail
          go_region_held3 (fun w' => w'.cell? ⟨w5.heap.size, k, none⟩ = some (.pointer (some ⟨Wh, 0, none⟩)) ∧ w'.cell? ⟨Wh, 4 + k, none⟩ = some (.pointer o)) (first | exact ⟨c1, c2⟩ | (rw [HWX.out]; exact ⟨x1, x2⟩)) (fail)
          rw [HWX.out]
          clear c1 c2 c3 z1 z2 NX hWne HWX
          go_wp2
          go_roundw
          case rel => exact ⟨k + 1, by omega, by go_num, NX2⟩
          case measure => simp [intOf]; omega
        · obtain rfl : k = hgt := by omega
          have hl1 : ¬ (k : Int) < (k : Int) := by omega
          have hcn : wr.cell? ⟨b, 16, none⟩ = some (.int .i64 (ns.length : Int)) := hR.out.cnt.trans (HM.out.below BW9.out).count
          have hsz : wr.cell? ⟨b, 17, none⟩ = some (.int .i64 (Sk.size (ents ns) : Int)) := hR.out.siz.trans (HM.out.below BW9.out).size
          have u0 : wr.cell? ⟨w.heap.size, 0, none⟩ = some (.slice kp key.length kc) := by
            rw [hR.out.kept.cell (p := ⟨w.heap.size, 0, none⟩) (World.block_lt_of_cell? W9 _ s0.out) (notf.out _ (Nat.le_refl _) (by show w.heap.size < w8.heap.size; have := gA.out; omega))]
            exact s0.out
          have u3 : wr.cell? ⟨w.heap.size, 3, none⟩ = some (.slice vp val.length vc) := by
            rw [hR.out.kept.cell (p := ⟨w.heap.size, 3, none⟩) (World.block_lt_of_cell? W9 _ s3.out) (notf.out _ (Nat.le_refl _) (by show w.heap.size < w8.heap.size; have := gA.out; omega))]
            exact s3.out
          have hbw : ¬ b = w.heap.size := fun e => by have := HM.out.lt (.inl rfl : foot b ns b); omega
          have zb := hR.out.frozen (.inl rfl : foot b _ b) 16
          have zs := hR.out.frozen (.inl rfl : foot b _ b) 17
          have hsl := Sk.size_le (l := ents ns) (fun e he => by
            obtain ⟨n, hn, rfl⟩ := List.mem_map.1 he
            exact HM.out.good n hn)
          have hel : (ents ns).length = ns.length := by unfold ents; simp
          rw [hel] at hsl
          have hb1 : (ns.length : Int) ≤ 1000000 := by omega
          obtain ⟨Z, hZ⟩ : ∃ Z, Sk.size (ents ns) = Z := ⟨_, rfl⟩
          have HZ := keep hZ
          rw [hZ] at hsz hsl
          have hb2 : (Z : Int) ≤ 1096000000 := by omega
          obtain ⟨L, hL⟩ : ∃ L, ns.length = L := ⟨_, rfl⟩
          have HL := keep hL
          rw [hL] at hcn hb1
          obtain ⟨kl, hkl2⟩ : ∃ kl, key.length = kl := ⟨_, rfl⟩
          obtain ⟨vl, hvl2⟩ : ∃ vl, val.length = vl := ⟨_, rfl⟩
          have HKL := keep hkl2
          have HVL := keep hvl2
          have hq1 : (kl : Int) ≤ 64 := by omega
          have hq2 : (vl : Int) ≤ 1024 := by omega
          rw [hkl2] at u0
          rw [hvl2] at u3
          have hx1 : ((wr.setCell ⟨b, 16, none⟩ (.int .i64 ((L : Int) + 1))).cell? ⟨b, 17, none⟩) = some (.int .i64 (Z : Int)) := by
            rw [set_cell_far (by intro e; simp only [Addr.mk.injEq, and_true] at e; omega)]; exact hsz
          have hx2 : ((wr.setCell ⟨b, 16, none⟩ (.int .i64 ((L : Int) + 1))).cell? ⟨w.heap.size, 0, none⟩) = some (.slice kp kl kc) := by
            rw [set_cell_far (by intro e; simp only [Addr.mk.injEq, and_true] at e; omega)]; exact u0
          have hx3 : ((wr.setCell ⟨b, 16, none⟩ (.int .i64 ((L : Int) + 1))).cell? ⟨w.heap.size, 3, none⟩) = some (.slice vp vl vc) := by
            rw [set_cell_far (by intro e; simp only [Addr.mk.injEq, and_true] at e; omega)]; exact u3
          have hx4 : (wr.setCell ⟨b, 16, none⟩ (.int .i64 ((L : Int) + 1))).frozen? ⟨b, 17, none⟩ = false := by rw [World.frozen?_setCell]; exact zs
          obtain ⟨wy, hwy⟩ : ∃ wy, wr.setCell ⟨b, 16, none⟩ (.int .i64 ((L : Int) + 1)) = wy := ⟨_, rfl⟩
          rw [hwy] at hx1 hx2 hx3 hx4
          have HCN := keep hcn
          have HSZ := keep hsz
          have HWY := keep hwy
          clear hZ hL hkl2 hvl2 u0 u3 hsz hkl hvl
          go_wp2_with fail
          go_region
          go_wp2
          go_ret
          have hy : (⟨ykey, yseq, ygone, yval⟩ : Ent) = ⟨key, seq, gone, val⟩ := by
            obtain ⟨e1, e2, e3, e4⟩ := HYE.out
            rw [e1, e2, e3, e4]
          have hnew : ents (ns.take K ++ ⟨w8.heap.size, ⟨ykp, ykc, yvp, yvc, ⟨ykey, yseq, ygone, yval⟩⟩, k⟩ :: ns.drop K) = Sk.ins (ents ns) ⟨key, seq, gone, val⟩ := by
            rw [ents_ins]
            unfold Sk.ins
            rw [← place_at, HK.out]
            simp only
            rw [hy]
          have hcls : ∀ n ∈ ns.take K ++ (⟨w8.heap.size, ⟨ykp, ykc, yvp, yvc, ⟨ykey, yseq, ygone, yval⟩⟩, k⟩ : Nd) :: ns.drop K, n = ⟨w8.heap.size, ⟨ykp, ykc, yvp, yvc, ⟨ykey, yseq, ygone, yval⟩⟩, k⟩ ∨ n ∈ ns := fun n hn => by
            rcases List.mem_append.1 hn with h3 | h3
            · exact .inr (List.mem_of_mem_take h3)
            · rcases List.mem_cons.1 h3 with h3 | h3
              · exact .inl h3
              · exact .inr (List.mem_of_mem_drop h3)
          have hgw : w.heap.size ≤ w8.heap.size := BW8.out.size
          have D := hR.out.done (fun n hn => by
              rcases hcls n hn with rfl | h3
              · show 0 < k; omega
              · exact HM.out.mem.tall n h3) (by rw [hnew]; exact Sk.ins_up HM.out.mem.up HTH.out) (fun n hn => by
              rcases hcls n hn with rfl | h3
              · show Sk.may ⟨ykey, yseq, ygone, yval⟩ = true
                rw [hy]; exact HMAY.out
              · exact HM.out.good n h3) (fun q hq => by
              rcases hq with h3 | ⟨n, hn, h3⟩
              · exact HM.out.far q (.inl h3)
              · rcases hcls n hn with rfl | h4
                · have h5 : w8.heap.size = q := h3
                  omega
                · exact HM.out.far q (.inr ⟨n, h4, h3⟩)) (by rw [HCN.out]; rfl) (by rw [HSZ.out]; rfl)
          have hlen : ((ns.take K ++ (⟨w8.heap.size, ⟨ykp, ykc, yvp, yvc, ⟨ykey, yseq, ygone, yval⟩⟩, k⟩ : Nd) :: ns.drop K).length : Int) = (L : Int) + 1 := by
            have h3 : (ns.take K ++ (⟨w8.heap.size, ⟨ykp, ykc, yvp, yvc, ⟨ykey, yseq, ygone, yval⟩⟩, k⟩ : Nd) :: ns.drop K).length = ns.length + 1 := by
              rw [List.length_append, List.length_cons, List.length_take, List.length_drop]; omega
            rw [h3, HL.out]; omega
          have hsize : (Sk.size (ents (ns.take K ++ ⟨w8.heap.size, ⟨ykp, ykc, yvp, yvc, ⟨ykey, yseq, ygone, yval⟩⟩, k⟩ :: ns.drop K)) : Int) = (Z : Int) + ((kl : Int) + (vl : Int) + 8) := by
            rw [hnew, Sk.size_ins, HZ.out]
            simp only
            rw [HKL.out, HVL.out]
            omega
          rw [hlen, hsize, HWY.out] at D
          rw [HK.out]
          exact ⟨rfl, ⟨w8.heap.size, ⟨ykp, ykc, yvp, yvc, ⟨ykey, yseq, ygone, yval⟩⟩, k⟩, hy, rfl, hgw, D.1.below ((Below.refl _ _).drew), ((Kept.of_below BW9.out).trans' D.2 (fun q hq hf => by
            rcases hf with h3 | ⟨n, hn, h3⟩
            · exact .inl h3
            · rcases hcls n hn with rfl | h4
              · have h5 : w8.heap.size = q := h3
                omega
              · exact .inr ⟨n, h4, h3⟩)).drew, NBY.out⟩
end Go.Proofs.Ytjiphmeoofeepaa
