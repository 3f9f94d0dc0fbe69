/- The walks of the laws' leaves, kept, fold. -/
/- The walks of the laws' kept and fold. -/
import Derived.Test.YtdgfbbaddoghaaaDoorFb
import Derived.Test.YtdgfbbaddoghaaaDoorJoinTv
import Derived.Test.YtdgfbbaddoghaaaDoorKb
import Derived.Deep.Cut
namespace Go.Proofs.YtdgfbbaddoghaaaDoor
open Go.RowKit
open Mt (Pos)

/-- The first leaves' hashes. -/
def leaves17 (es : List ByteE) : List (List UInt8) := (es.take 60).map fun e => leafL e.bytes
set_option maxHeartbeats 2000000 in
set_option maxRecDepth 100000 in
theorem leaves17_any (ao : Option Addr) (n c : Nat) (es : List ByteE) (w : World) (hL : Ld w) (hs : RSrc byteKind w ao n c es) (hl : ∀ e ∈ es, e.bytes.length ≤ 140737488354000) (hn : n ≤ 4611686018427387904) :
    Calls Tryd.prog 9 #[.slice ao n c] w (RowR w (leaves17 es)) := by
  obtain ⟨i0, hi0, hz0, hz1, hz2⟩ := info_partsS infoS
  have HS := keep hs
  have HLd := keep hL
  have HN := keep hs.len
  have HL := keep hl
  clear hs hl hL
  go_enter Tryd.func9, Tryd.ntmps9
  go_wp2
  go_loopw [3, 4] (fun v i wr => ∃ k : Nat, k ≤ n ∧ k ≤ 60 ∧ i = .int .i64 (k : Int) ∧ Hid (wr.ownsRow w.heap.size 9 1 v k (rv strKind ((es.take k).map fun e => leafL e.bytes)) ∧ Below w.heap.size w wr)) (fun _ i _ => n - (intOf i).toNat)
  case atStart => exact ⟨0, Nat.zero_le _, Nat.zero_le _, rfl, World.ownsRow_nil _ _ _ _, Below.refl _ _⟩
  case round =>
    obtain ⟨k, hk, hk60, rfl, hI⟩ := hrel
    obtain ⟨vp, vc, hv⟩ := own_is hI.out.1
    subst hv
    have END : Hid (¬ (k < n ∧ k < 60) → leaves17 es = (es.take k).map fun e => leafL e.bytes) := fun h => by
      unfold leaves17
      congr 1
      by_cases h1 : k < n
      · rw [show k = 60 by omega]
      · rw [List.take_of_length_le (by rw [HN.out]; omega), List.take_of_length_le (by rw [HN.out]; omega)]
    by_cases hkn : k < n ∧ k < 60
    · obtain ⟨h1, h2⟩ := hkn
      obtain ⟨b, off, rfl, _, hcell⟩ := slices_at HS.out (by omega)
      obtain ⟨s, hsk⟩ : ∃ s, es[k]? = some s := ⟨es[k]'(by rw [HN.out]; exact h1), List.getElem?_eq_getElem _⟩
      have ck := below_cell hI.out.2 (hcell k s hsk)
      have k0 : (0 : Int) ≤ (k : Int) := by omega
      have k1 : (k : Int) < (n : Int) := by omega
      have k2 : (k : Int) < 60 := by omega
      have LF := keep (leaf_any s.ptr s.bytes.length s.cap s.bytes wr (HL.out s (List.mem_of_getElem? hsk)) (HLd.out.below hI.out.2) (Src.below (HS.out.held s (List.mem_of_getElem? hsk)) hI.out.2))
      have NXT : Hid ((es.take (k + 1)).map (fun e => leafL e.bytes) = (es.take k).map (fun e => leafL e.bytes) ++ [leafL s.bytes]) := by show _ = _; rw [List.take_add_one, hsk, List.map_append]; rfl
      obtain ⟨Y, hY⟩ : ∃ Y, leafL s.bytes = Y := ⟨_, rfl⟩
      rw [hY] at LF NXT
      obtain ⟨C, hC⟩ : ∃ C, (es.take k).map (fun e => leafL e.bytes) = C := ⟨_, rfl⟩
      rw [hC] at NXT hI
      have O1 := keep hI.out.1
      have B1 := keep hI.out.2
      obtain ⟨sp, sc, sb⟩ := s
      simp only at ck LF
      clear hcell hsk hY hC hI END
      go_wp2_with fail
      refine LF.out.mono ?_
      rintro e w2 ⟨rfl, hb2⟩
      have b3w := keep (B1.out.trans (hb2.mono B1.out.size))
      have O3 := keep (own_next O1.out hb2)
      clear hb2 LF ck
      have rc := keep (rec_cells (k := strKind) w2 9 Y)
      have b4 := keep (b3w.out.alloc b3w.out.size (.cells #[.string ⟨Y.toArray⟩] 9))
      have O4 : Hid ((w2.alloc (.cells #[.string ⟨Y.toArray⟩] 9)).ownsRow w.heap.size 9 1 (.slice vp k vc) k (rv strKind C)) := own_next O3.out ((Below.refl _ _).alloc (Nat.le_refl _) _)
      go_wp2_with (at_builtin; go_loud (refine wpList_append_rec strKind_ok rfl _ _ 22 9 rfl w.heap.size i0 _ 16 Tryd.underlying22 hi0 hz0 hz1 hz2 rfl (.slice vp k vc) k C rfl O4.out _ 1 Y rfl rc.out (by unfold maxLen; omega) (by omega) b4.out.size ?_); intro v7 w7 ho7 hg7; have O7 := keep ho7; have b7 := keep (b4.out.grown hg7 b4.out.size (fun j hj => (O4.out.lt j hj).1)); clear ho7 hg7)
      go_roundw
      case rel => exact ⟨k + 1, by omega, by omega, by go_num, by rw [NXT.out]; exact O7.out, b7.out⟩
      case measure => simp [intOf]; omega
    · have E2 := keep (END.out hkn)
      have O1 := keep hI.out.1
      have B1 := keep hI.out.2
      have LN : Hid (((es.take k).map fun e => leafL e.bytes).length = k) := by show _ = _; rw [List.length_map, List.length_take, HN.out]; omega
      clear hI END
      by_cases h1 : k < n
      · have k1 : (k : Int) < (n : Int) := by omega
        have k2 : ¬ (k : Int) < 60 := by omega
        go_wp2
        go_ret
        exact ⟨_, rfl, by rw [E2.out, LN.out]; exact O1.out, B1.out⟩
      · have k1 : ¬ (k : Int) < (n : Int) := by omega
        go_wp2
        go_ret
        exact ⟨_, rfl, by rw [E2.out, LN.out]; exact O1.out, B1.out⟩
end Go.Proofs.YtdgfbbaddoghaaaDoor
namespace Go.Proofs.YtdgfbbaddoghaaaDoor
open Go.RowKit
open Mt (Pos)

/-- The hash of a node of leaves. -/
def nodeAt (h : List (List UInt8)) (p : Pos) : List UInt8 := rootL (Mt.piece h (p.x * 2 ^ p.l) (p.x * 2 ^ p.l + 2 ^ p.l))
/-- Does a node stand for some of n leaves? -/
def inside (n : Nat) (p : Pos) : Prop := p.l ≤ 6 ∧ p.x * 2 ^ p.l + 2 ^ p.l ≤ n
theorem wrap_mul {x l lo : Nat} (h : x * 2 ^ l = lo) (hb : lo ≤ 1000000) : wrap64 ((x : Int) * 2 ^ l) = (lo : Int) := by
  have e : (x : Int) * 2 ^ l = ((x * 2 ^ l : Nat) : Int) := by simp
  rw [e, h]
  unfold wrap64
  omega
set_option maxHeartbeats 400000 in
set_option maxRecDepth 100000 in
theorem kept_any (ao : Option Addr) (n c : Nat) (hs : List (List UInt8)) (p : Pos) (w : World) (hS : RSrc strKind w ao n c hs) (h32 : ∀ e ∈ hs, e.length ≤ 1099511627776) (hn : n ≤ 60) (hp : inside n p) :
    Calls Tryd.prog 31 #[.slice ao n c, .agg #[.int .i64 (p.l : Int), .int .i64 (p.x : Int)]] w fun e w' => e = .returned (.tuple #[.string ⟨(nodeAt hs p).toArray⟩, .bool true]) ∧ Below w.heap.size w w' := by
  obtain ⟨l, x⟩ := p
  obtain ⟨hl, hhi⟩ := hp
  unfold nodeAt
  simp only at hl hhi ⊢
  obtain ⟨y, hy⟩ : ∃ y, 2 ^ l = y := ⟨_, rfl⟩
  obtain ⟨lo, hlo⟩ : ∃ lo, x * 2 ^ l = lo := ⟨_, rfl⟩
  have hy1 : 1 ≤ y := by rw [← hy]; exact Nat.one_le_two_pow
  have hxlo : x ≤ lo := by rw [← hlo]; exact Nat.le_mul_of_pos_right _ (by omega)
  rw [hlo] at hhi
  rw [hy] at hhi
  have WX := keep (wrap_mul hlo (by omega))
  have WP := wrap_pow (k := l) (by omega)
  rw [hy] at WP
  have WP := keep WP
  have WS : Hid (wrap64 ((lo : Int) + (y : Int)) = ((lo + y : Nat) : Int)) := by show _ = _; unfold wrap64; omega
  rw [hlo, hy]
  obtain ⟨b, off, rfl, hbw, _⟩ := strs_at hS (by omega)
  have hcap := hS.cap
  have PL : (Mt.piece hs lo (lo + y)).length = lo + y - lo := Mt.piece_len (by rw [hS.len]; exact hhi)
  obtain ⟨W1, hW1⟩ : ∃ Wn, w.alloc (.cells #[.int .i64 (l : Int), .int .i64 (x : Int)] 41) = Wn := ⟨_, rfl⟩
  have b1 : Hid (Below w.heap.size w W1) := by rw [← hW1]; exact (Below.refl _ _).alloc (Nat.le_refl _) _
  have c0 : W1.cell? ⟨w.heap.size, 0, none⟩ = some (.int .i64 (l : Int)) := by rw [← hW1]; exact cell_of_row _ _ _ _ _ _ (heap_alloc_new w _)
  have c1 : W1.cell? ⟨w.heap.size, 1, none⟩ = some (.int .i64 (x : Int)) := by rw [← hW1]; exact cell_of_row _ _ _ _ _ _ (heap_alloc_new w _)
  have RR := keep (rroot_any (lo + y - lo) (Mt.piece hs lo (lo + y)) PL (some ⟨b, off + lo, none⟩) (c - lo) W1 (strs_tail ((hS.below strKind_ok b1.out).head strKind_ok (lo + y) hhi) lo (by omega)) (fun e he => h32 e (List.mem_of_mem_take (List.mem_of_mem_drop he))) (by omega))
  obtain ⟨X, hX⟩ : ∃ X, rootL (Mt.piece hs lo (lo + y)) = X := ⟨_, rfl⟩
  rw [hX] at RR ⊢
  obtain ⟨hi, hhie⟩ : ∃ hi, lo + y = hi := ⟨_, rfl⟩
  rw [hhie] at RR hhi WS
  have l0 : (0 : Int) ≤ (l : Int) := by omega
  have l1 : (l : Int) ≤ 6 := by omega
  have x0 : (0 : Int) ≤ (x : Int) := by omega
  have x1 : (x : Int) ≤ 60 := by omega
  have lo0 : (0 : Int) ≤ (lo : Int) := by omega
  have lo1 : ¬ (lo : Int) < 0 := by omega
  have hi0 : ¬ (n : Int) < (hi : Int) := by omega
  have hi1 : (lo : Int) ≤ (hi : Int) := by omega
  have hi2 : (hi : Int) ≤ (c : Int) := by omega
  have hi3 : (0 : Int) ≤ (hi : Int) := by omega
  have lc : ¬ c = lo := by omega
  have x2 : ¬ (100 : Int) < (x : Int) := by omega
  have l2 : ¬ (20 : Int) < (l : Int) := by omega
  have hlb : (lo : Int) ≤ 60 := by omega
  have hhb : (hi : Int) ≤ 60 := by omega
  clear hl hlo hy hy1 hxlo hhi hS h32 hn hbw hcap PL hX hhie
  go_enter Tryd.func31, Tryd.ntmps31
  go_upto_region 2 with fail
  rw [WX.out]
  go_upto_region 3 with fail
  rw [WP.out, WS.out]
  go_wp2_with fail
  refine RR.out.mono ?_
  rintro e w2 ⟨rfl, hb2⟩
  have B2 := keep (b1.out.trans (hb2.mono b1.out.size))
  clear hb2 RR
  go_wp2
  go_ret2
  exact ⟨rfl, B2.out⟩
set_option maxHeartbeats 1000000 in
set_option maxRecDepth 100000 in
theorem fold17_any (ao : Option Addr) (n c : Nat) (hs : List (List UInt8)) (pp : Option Addr) (pn pc : Nat) (ps : List Pos) (w : World) (hL : Ld w) (hS : RSrc strKind w ao n c hs) (h32 : ∀ e ∈ hs, e.length ≤ 1099511627776) (hn : n ≤ 60) (hP : RSrc posKind w pp pn pc ps) (hpn : pn ≤ 1000) (hp : ∀ p ∈ ps, inside n p) (hlen : ∀ p ∈ ps, (nodeAt hs p).length ≤ 1099511627776) :
    Calls Tryd.prog 14 #[.slice ao n c, .slice pp pn pc] w fun e w' => e = .returned (.tuple #[.string ⟨(foldL (ps.map (nodeAt hs))).toArray⟩, .bool true]) ∧ Below w.heap.size w w' := by
  obtain ⟨i0, hi0, hz0, hz1, hz2⟩ := info_partsS infoS
  have HLd := keep hL
  have HS := keep hS
  have H32 := keep h32
  have HP := keep hP
  have HPL := keep hP.len
  have HIN := keep hp
  have HLN := keep hlen
  clear hL hS h32 hP hp hlen
  go_enter Tryd.func14, Tryd.ntmps14
  go_wp2
  go_loopw [6, 7, 8, 9] (fun v i _ _ wr => ∃ k : Nat, k ≤ pn ∧ i = .int .i64 (k : Int) ∧ Hid (wr.ownsRow w.heap.size 9 1 v k (rv strKind ((ps.take k).map (nodeAt hs))) ∧ Below w.heap.size w wr)) (fun _ i _ _ _ => pn - (intOf i).toNat)
  case atStart => exact ⟨0, Nat.zero_le _, rfl, World.ownsRow_nil _ _ _ _, Below.refl _ _⟩
  case round =>
    obtain ⟨k, hk, rfl, hI⟩ := hrel
    obtain ⟨vp, vc, hv⟩ := own_is hI.out.1
    subst hv
    have O1 := keep hI.out.1
    have B1 := keep hI.out.2
    clear hI
    rcases Nat.lt_or_ge k pn with hlt | hge
    · obtain ⟨b, off, rfl, hbw, hcell⟩ := pos_at HP.out (by omega)
      obtain ⟨p, hpk⟩ : ∃ p, ps[k]? = some p := ⟨ps[k]'(by rw [HPL.out]; exact hlt), List.getElem?_eq_getElem _⟩
      have hc0 := below_cell B1.out (hcell k p hpk).1
      have hc1 := below_cell B1.out (hcell k p hpk).2
      have KA := keep (kept_any ao n c hs p wr (HS.out.below strKind_ok B1.out) H32.out hn (HIN.out p (List.mem_of_getElem? hpk)))
      have NXT : Hid ((ps.take (k + 1)).map (nodeAt hs) = (ps.take k).map (nodeAt hs) ++ [nodeAt hs p]) := by show _ = _; rw [List.take_add_one, hpk, List.map_append]; rfl
      have k0 : (0 : Int) ≤ (k : Int) := by omega
      have k1 : (k : Int) < (pn : Int) := by omega
      obtain ⟨Y, hY⟩ : ∃ Y, nodeAt hs p = Y := ⟨_, rfl⟩
      rw [hY] at KA NXT
      obtain ⟨C, hC⟩ : ∃ C, (ps.take k).map (nodeAt hs) = C := ⟨_, rfl⟩
      rw [hC] at NXT O1
      obtain ⟨pl, px⟩ := p
      simp only at hc0 hc1 KA
      clear hcell hpk hY hC hbw
      go_wp2_with fail
      refine KA.out.mono ?_
      rintro e w2 ⟨rfl, hb2⟩
      have B2 := keep (B1.out.trans (hb2.mono B1.out.size))
      have O3 := keep (own_next O1.out hb2)
      clear hb2 KA hc0 hc1
      have rc := keep (rec_cells (k := strKind) w2 9 Y)
      have b4 := keep (B2.out.alloc B2.out.size (.cells #[.string ⟨Y.toArray⟩] 9))
      have O4 : Hid ((w2.alloc (.cells #[.string ⟨Y.toArray⟩] 9)).ownsRow w.heap.size 9 1 (.slice vp k vc) k (rv strKind C)) := own_next O3.out ((Below.refl _ _).alloc (Nat.le_refl _) _)
      go_wp2_with (at_builtin; go_loud (refine wpList_append_rec strKind_ok rfl _ _ 22 9 rfl w.heap.size i0 _ 16 Tryd.underlying22 hi0 hz0 hz1 hz2 rfl (.slice vp k vc) k C rfl O4.out _ 1 Y rfl rc.out (by unfold maxLen; omega) (by omega) b4.out.size ?_); intro v7 w7 ho7 hg7; have O7 := keep ho7; have b7 := keep (b4.out.grown hg7 b4.out.size (fun j hj => (O4.out.lt j hj).1)); clear ho7 hg7)
      go_roundw
      case rel => exact ⟨k + 1, by omega, by first | rfl | go_num, by rw [NXT.out]; exact O7.out, b7.out⟩
      case measure => simp [intOf]; omega
    · obtain rfl : k = pn := by omega
      have E : Hid (ps.take k = ps) := List.take_of_length_le (by have := HPL.out; omega)
      rw [E.out] at O1
      have hk1 : ¬ (k : Int) < (k : Int) := by omega
      obtain ⟨a2, c2, e2, hs2, _⟩ := RSrc.own strKind_ok O1.out (fun _ _ => trivial)
      cases e2
      have FA := keep (fold_any vp k vc (ps.map (nodeAt hs)) wr (HLd.out.below B1.out) hs2 (fun e he => by obtain ⟨p, hp, rfl⟩ := List.mem_map.1 he; exact HLN.out p hp) (by omega))
      obtain ⟨X, hX⟩ : ∃ X, foldL (ps.map (nodeAt hs)) = X := ⟨_, rfl⟩
      rw [hX] at FA
      have HX := keep hX
      clear hX hs2
      go_wp2_with fail
      refine FA.out.mono ?_
      rintro e w2 ⟨rfl, hb2⟩
      have B2 := keep (B1.out.trans (hb2.mono B1.out.size))
      clear hb2 FA
      go_wp2
      go_ret2
      exact ⟨by rw [HX.out]; rfl, B2.out⟩
end Go.Proofs.YtdgfbbaddoghaaaDoor
