/- The walks of asked and withoutLastGone. -/
import Derived.Test.YtgdggeacjfhkkaaM8
import Derived.Test.YtgdggeacjfhkkaaM6
namespace Go.Proofs.Ytgdggeacjfhkkaa.Mg
open Go.Proofs.Ytgdggeacjfhkkaa
open Go.Proofs.Ytgdggeacjfhkkaa.Sk (Ent)
theorem asked_step (b : Bool) (e : Ent) (l : List Ent) (zs : List Int) (m : Nat) (h1 : ∀ t, t < m → decide (zs.getD t 0 < e.seq) = false) (h2 : ∀ t, m ≤ t → t < zs.length → decide (zs.getD t 0 < e.seq) = true) (hm : m ≤ zs.length) :
    asked b (e :: l) zs = if b || decide (0 < m) then e :: asked false l (zs.drop m) else asked false l (zs.drop m) := by
  have hf : zs.filter (fun p => decide (p < e.seq)) = zs.drop m := by
    conv => lhs; rw [← List.take_append_drop m zs]
    rw [List.filter_append]
    have f1 : (zs.take m).filter (fun p => decide (p < e.seq)) = [] := by
      rw [List.filter_eq_nil_iff]
      intro x hx
      obtain ⟨t, ht⟩ := List.getElem?_of_mem hx
      have hlt : t < m := by
        have := (List.getElem?_eq_some_iff.1 ht).1
        rw [List.length_take] at this
        omega
      rw [List.getElem?_take_of_lt hlt] at ht
      have := h1 t hlt
      rw [List.getD_eq_getElem?_getD, ht] at this
      simpa using this
    have f2 : (zs.drop m).filter (fun p => decide (p < e.seq)) = zs.drop m := by
      rw [List.filter_eq_self]
      intro x hx
      obtain ⟨t, ht⟩ := List.getElem?_of_mem hx
      rw [List.getElem?_drop] at ht
      have := h2 (m + t) (by omega) (List.getElem?_eq_some_iff.1 ht).1
      rw [List.getD_eq_getElem?_getD, ht] at this
      simpa using this
    rw [f1, f2, List.nil_append]
  have ha : zs.any (fun p => decide (e.seq ≤ p)) = decide (0 < m) := by
    rw [Bool.eq_iff_iff, List.any_eq_true, decide_eq_true_eq]
    constructor
    · rintro ⟨x, hx, hs⟩
      obtain ⟨t, ht⟩ := List.getElem?_of_mem hx
      rcases Nat.lt_or_ge t m with h | h
      · omega
      · have := h2 t h (List.getElem?_eq_some_iff.1 ht).1
        rw [List.getD_eq_getElem?_getD, ht] at this
        have h3 := of_decide_eq_true this
        have h4 := of_decide_eq_true hs
        simp at h3
        omega
    · intro h0
      have := h1 0 h0
      have hl : 0 < zs.length := by omega
      rw [List.getD_eq_getElem?_getD, List.getElem?_eq_getElem hl] at this
      refine ⟨zs[0], List.getElem_mem hl, ?_⟩
      have h3 := of_decide_eq_false this
      simp only [Option.getD_some] at h3
      exact decide_eq_true (by omega)
  rw [asked, ha, hf]
theorem strip_gone (l : List Ent) (e : Ent) (h : e.gone = true) : strip (l ++ [e]) = strip l := by
  unfold strip
  rw [List.reverse_append]
  simp [h]
theorem strip_stay (l : List Ent) (e : Ent) (h : e.gone = false) : strip (l ++ [e]) = l ++ [e] := by
  unfold strip
  rw [List.reverse_append]
  simp [h]
theorem asked_len : ∀ (b : Bool) (l : List Ent) (zs : List Int), (asked b l zs).length ≤ l.length
  | _, [], _ => Nat.le_refl _
  | b, e :: l, zs => by
    have := asked_len false l (zs.filter fun p => decide (p < e.seq))
    rw [asked]
    split
    · simpa using this
    · rw [List.length_cons]; omega
theorem strip_len (l : List Ent) : (strip l).length ≤ l.length := by
  unfold strip
  rw [List.length_reverse]
  have := (List.dropWhile_sublist (·.gone) (l := l.reverse)).length_le
  rwa [List.length_reverse] at this
theorem kept_len (zs : List Int) (b : Bool) (g : List Ent) : (kept zs b g).length ≤ g.length := by
  unfold kept
  split
  · exact Nat.le_trans (strip_len _) (asked_len _ _ _)
  · exact asked_len _ _ _
end Go.Proofs.Ytgdggeacjfhkkaa.Mg
namespace Go.Proofs.Ytgdggeacjfhkkaa
open Go.RowKit
open Sk (Ent)

/-- How far asked has come: k entries are gone through, of the pins m. -/
structure AskI (w : World) (n N C k m : Nat) (zs : List Int) (es : List EV) (ys : List EV) (v : Value) (wr : World) : Prop where
  kn : k ≤ n
  mN : m ≤ N
  len : ys.length ≤ k
  below : Below w.heap.size w wr
  left : ∃ p', LeftI wr w.heap.size p' (N - m) (C - m) ∧ RSrc inK w p' (N - m) (C - m) (zs.drop m) ∧ (p' = none ∨ ∃ b off, p' = some ⟨b, off, none⟩)
  row : wr.ownsRow w.heap.size 36 4 v ys.length (rv entKind ys)
  each : ∀ y ∈ ys, y ∈ es
  val : Mg.asked true (es.map (·.e)) zs = ys.map (·.e) ++ Mg.asked (decide (k = 0)) ((es.map (·.e)).drop k) (zs.drop m)
set_option maxHeartbeats 4000000 in
set_option maxRecDepth 100000 in
theorem asked_any (ao : Option Addr) (n c : Nat) (es : List EV) (p : Option Addr) (N C : Nat) (zs : List Int) (w : World) (hs : RSrc entKind w ao n c es) (hz : RSrc inK w p N C zs) (hfall : zs.Pairwise (· ≥ ·)) (hn : n ≤ 1000000) (hN : N ≤ 1000000) (hC : C ≤ maxLen) (hfo : p = none ∨ ∃ b off, p = some ⟨b, off, none⟩) :
    Calls Try.prog 37 #[.slice ao n c, .slice p N C] w fun e w' => ∃ v ys, e = .returned v ∧ w'.ownsRow w.heap.size 36 4 v ys.length (rv entKind ys) ∧ (∀ y ∈ ys, y ∈ es) ∧ ys.map (·.e) = Mg.asked true (es.map (·.e)) zs ∧ Below w.heap.size w w' := by
  obtain ⟨i0, hi0, hz0, hz1, hz2⟩ := info_parts3 infoE
  have HS := keep hs
  have HLEN := keep hs.len
  have HZL := keep hz.len
  have HF := keep hfall
  have HCC := keep hC
  have W1B : Hid (Below w.heap.size w (w.alloc (.cells #[.slice p N C] 73))) := (Below.refl _ _).alloc (Nat.le_refl _) _
  have W1L : Hid (LeftI (w.alloc (.cells #[.slice p N C] 73)) w.heap.size p N C) := heap_alloc_new w _
  have ST : Hid (AskI w n N C 0 0 zs es [] (.slice none 0 0) (w.alloc (.cells #[.slice p N C] 73))) := ⟨Nat.zero_le _, Nat.zero_le _, Nat.le_refl _, W1B.out, ⟨p, W1L.out, hz, hfo⟩, World.ownsRow_nil _ _ _ _, (fun y h => by cases h), rfl⟩
  clear hs hz hfall hC hfo W1B W1L
  go_enter Try.func37, Try.ntmps37
  go_wp2
  go_loopw [5, 15] (fun v i wr => ∃ (k m : Nat) (ys : List EV), i = .int .i64 (k : Int) ∧ Hid (AskI w n N C k m zs es ys v wr)) (fun _ i _ => n - (intOf i).toNat)
  case atStart => exact ⟨0, 0, [], rfl, ST.out⟩
  case round =>
    obtain ⟨k, m, ys, rfl, hI⟩ := hrel
    have HB := keep hI.out.below
    have hk := hI.out.kn
    have hmN := hI.out.mN
    have hyl := hI.out.len
    by_cases hkn : k < n
    · obtain ⟨b, off, rfl, _, _⟩ := HS.out.form entKind_ok (by omega)
      obtain ⟨y, hy⟩ : ∃ y, es[k]? = some y := ⟨es[k]'(by rw [HLEN.out]; exact hkn), List.getElem?_eq_getElem _⟩
      obtain ⟨p0, p1, p2, p3⟩ := ent_cells (HS.out.below entKind_ok HB.out) hy
      have HY := keep hy
      have DR : Hid ((es.map (·.e)).drop k = y.e :: (es.map (·.e)).drop (k + 1)) := by
        have hh : (es.map (·.e))[k]? = some y.e := by rw [List.getElem?_map, hy]; rfl
        obtain ⟨h1, h2⟩ := List.getElem?_eq_some_iff.1 hh
        show _ = _
        rw [List.drop_eq_getElem_cons h1, h2]
      obtain ⟨p', hL, hR, hfo'⟩ := hI.out.left
      have HL := keep hL
      have HR := keep hR
      have ll : (k : Int) < (n : Int) := by omega
      have l0 : (0 : Int) ≤ (k : Int) := by omega
      clear hy
      obtain ⟨ykp, ykc, yvp, yvc, ⟨ykey, yseq, ygone, yval⟩⟩ := y
      simp only at p0 p1 p2 p3 DR
      obtain ⟨W1, hW1⟩ : ∃ W1, wr.alloc (.cells #[.slice ykp ykey.length ykc, .int .i64 yseq, .bool ygone, .slice yvp yval.length yvc] 36) = W1 := ⟨_, rfl⟩
      have b1 : Hid (Below wr.heap.size wr W1) := by rw [← hW1]; exact (Below.refl _ _).alloc (Nat.le_refl _) _
      have s1 : Hid (W1.heap.size = wr.heap.size + 1) := by rw [← hW1]; show _ = _; simp
      have g1 : Hid (W1.heap[wr.heap.size]? = some (.cells #[.slice ykp ykey.length ykc, .int .i64 yseq, .bool ygone, .slice yvp yval.length yvc] 36)) := by rw [← hW1]; exact heap_alloc_new wr _
      have B1 := keep (HB.out.trans (b1.out.mono HB.out.size))
      have L1 : Hid (LeftI W1 w.heap.size p' (N - m) (C - m)) := (b1.out.block _ (Array.getElem?_eq_some_iff.1 hL).1).trans hL
      have PL := keep (Array.getElem?_eq_some_iff.1 hL).1
      have UN := keep (until_any wr.heap.size w.heap.size yseq p' (N - m) (C - m) (zs.drop m) W1 L1.out (cell_of_row _ _ _ _ _ _ g1.out) (hR.below inK_ok B1.out) (HF.out.sublist (List.drop_sublist _ _)) (by omega) (Nat.le_trans (Nat.sub_le _ _) HCC.out) hfo')
      clear hL hR hfo'
      go_wp2_with fail
      refine UN.out.mono ?_
      rintro e w2 ⟨m2, p2', rfl, hm2, hA, hB2, hL2, hG2, hP2⟩
      have M2 := keep hm2
      have R2 := keep (HR.out.afterI hm2 hP2)
      have F2 : Hid (p2' = none ∨ ∃ b off, p2' = some ⟨b, off, none⟩) := by
        rcases hP2 with ⟨b, off, _, h⟩ | ⟨h, _⟩
        · exact .inr ⟨b, off + m2, h⟩
        · rw [h]
          obtain ⟨p'', hL'', _, hf''⟩ := hI.out.left
          have e1 := HL.out.cell.symm.trans hL''.cell
          cases e1
          exact hf''
      have L2 := keep hL2
      have B2 := keep (B1.out.grown hG2 B1.out.size (fun j hj => by cases hj; exact Nat.le_refl _))
      have AS := keep (Mg.asked_step (decide (k = 0)) ⟨ykey, yseq, ygone, yval⟩ ((es.map (·.e)).drop (k + 1)) (zs.drop m) m2 hA (fun t h1 h2 => hB2 t h1 (by rw [List.length_drop, HZL.out] at h2; exact h2)) (by rw [List.length_drop, HZL.out]; exact hm2))
      have O2 : Hid (w2.ownsRow w.heap.size 36 4 u5 ys.length (rv entKind ys)) := by
        have o1 : W1.ownsRow w.heap.size 36 4 u5 ys.length (rv entKind ys) := own_block hI.out.row (fun g hg => b1.out.block g (own_size hI.out.row hg))
        exact own_block o1 (fun g hg => hG2.block g (own_size o1 hg) (fun e => by
          obtain ⟨cur, hcur⟩ := own_tag o1 hg
          cases e
          have hh := L1.out
          unfold LeftI at hh
          rw [hh] at hcur
          cases hcur))
      have g2 : Hid (w2.heap[wr.heap.size]? = some (.cells #[.slice ykp ykey.length ykc, .int .i64 yseq, .bool ygone, .slice yvp yval.length yvc] 36)) := (hG2.block _ (by rw [s1.out]; omega) (fun e => by have h1 := Option.some.inj e; have h2 := PL.out; omega)).trans g1.out
      have V2 := hI.out.val
      rw [DR.out, AS.out] at V2
      have VV := keep V2
      clear hA hB2 hL2 hG2 hP2 hm2 UN V2 hW1
      have q0 : w2.cell? ⟨wr.heap.size, 0, none⟩ = some (.slice ykp ykey.length ykc) := cell_of_row _ _ _ _ _ _ g2.out
      have q1 : w2.cell? ⟨wr.heap.size, 1, none⟩ = some (.int .i64 yseq) := cell_of_row _ _ _ _ _ _ g2.out
      have q2 : w2.cell? ⟨wr.heap.size, 2, none⟩ = some (.bool ygone) := cell_of_row _ _ _ _ _ _ g2.out
      have q3 : w2.cell? ⟨wr.heap.size, 3, none⟩ = some (.slice yvp yval.length yvc) := cell_of_row _ _ _ _ _ _ g2.out
      have hm2 := M2.out
      -- what is common to both ends
      have NX : Hid (∀ ys' v' w3, Below w.heap.size w w3 → LeftI w3 w.heap.size p2' (N - m - m2) (C - m - m2) → w3.ownsRow w.heap.size 36 4 v' ys'.length (rv entKind ys') → (∀ y ∈ ys', y ∈ es) → ys'.length ≤ k + 1 → Mg.asked true (es.map (·.e)) zs = ys'.map (·.e) ++ Mg.asked false ((es.map (·.e)).drop (k + 1)) ((zs.drop m).drop m2) → AskI w n N C (k + 1) (m + m2) zs es ys' v' w3) := fun ys' v' w3 h1 h2 h3 h4 h5 h6 =>
        ⟨by omega, by omega, h5, h1, ⟨p2', by rw [← Nat.sub_sub, ← Nat.sub_sub]; exact h2, by rw [← Nat.sub_sub, ← Nat.sub_sub, ← List.drop_drop]; exact R2.out, F2.out⟩, h3, h4, by rw [List.drop_drop] at h6; exact h6⟩
      by_cases hkeep : k = 0 ∨ 0 < m2
      · have A5 := keep ((Below.refl w2.heap.size w2).alloc (Nat.le_refl _) (.cells #[.slice ykp ykey.length ykc, .int .i64 yseq, .bool ygone, .slice yvp yval.length yvc] 36))
        have B5 := keep (B2.out.trans (A5.out.mono B2.out.size))
        have O5 := keep (O2.out.alloc (.cells #[.slice ykp ykey.length ykc, .int .i64 yseq, .bool ygone, .slice yvp yval.length yvc] 36))
        have L5 : Hid (LeftI (w2.alloc (.cells #[.slice ykp ykey.length ykc, .int .i64 yseq, .bool ygone, .slice yvp yval.length yvc] 36)) w.heap.size p2' (N - m - m2) (C - m - m2)) := (A5.out.block _ (Array.getElem?_eq_some_iff.1 L2.out).1).trans L2.out
        have rc := keep (rec_cells (k := entKind) w2 36 ⟨ykp, ykc, yvp, yvc, ⟨ykey, yseq, ygone, yval⟩⟩)
        have VK : Hid ((decide (k = 0) || decide (0 < m2)) = true) := by
          show _ = _
          rcases hkeep with h | h <;> simp [h]
        have FINI : Hid (∀ v5 w5, w5.ownsRow w.heap.size 36 4 v5 (ys.length + 1) (rv entKind (ys ++ [⟨ykp, ykc, yvp, yvc, ⟨ykey, yseq, ygone, yval⟩⟩])) → (w2.alloc (.cells #[.slice ykp ykey.length ykc, .int .i64 yseq, .bool ygone, .slice yvp yval.length yvc] 36)).grownBy w5 u5.ownBlock → AskI w n N C (k + 1) (m + m2) zs es (ys ++ [⟨ykp, ykc, yvp, yvc, ⟨ykey, yseq, ygone, yval⟩⟩]) v5 w5) := fun v5 w5 ho hg => by
          refine NX.out _ _ _ (B5.out.grown hg B5.out.size (fun j hj => (O5.out.lt j hj).1)) ?_ (by rw [List.length_append]; exact ho) ?_ (by rw [List.length_append, List.length_singleton]; omega) ?_
          · refine (hg.block _ (Array.getElem?_eq_some_iff.1 L5.out).1 (fun e => ?_)).trans L5.out
            obtain ⟨cur, hcur⟩ := own_tag O5.out e.symm
            have hh := L5.out
            unfold LeftI at hh
            rw [hh] at hcur
            cases hcur
          · intro z hz
            rcases List.mem_append.1 hz with hz | hz
            · exact hI.out.each z hz
            · rw [List.mem_singleton.1 hz]; exact List.mem_of_getElem? HY.out
          · rw [VV.out, if_pos VK.out, List.map_append, List.append_assoc]
            rfl
        by_cases hk0 : k = 0
        · subst hk0
          go_wp2_with (at_builtin; go_loud (refine wpList_append_rec entKind_ok rfl _ _ 24 36 rfl w.heap.size i0 _ 64 Try.underlying24 hi0 hz0 hz1 hz2 rfl u5 ys.length ys rfl O5.out _ 1 (⟨ykp, ykc, yvp, yvc, ⟨ykey, yseq, ygone, yval⟩⟩ : EV) rfl rc.out (by unfold maxLen; omega) (by omega) B5.out.size ?_); intro v5 w5 ho5 hg5; have F5 := keep (FINI.out v5 w5 ho5 hg5); clear ho5 hg5)
          go_roundw
          case rel => exact ⟨_, _, _, by go_num, F5.out⟩
          case measure => simp [intOf]; omega
        · have hm0 : 0 < m2 := by omega
          have k1 : ((k : Int) == 0) = false := by simpa using hk0
          have k2 : (0 : Int) < (m2 : Int) := by omega
          have k3 : ¬ (k : Int) = 0 := by omega
          go_wp2_with (at_builtin; go_loud (refine wpList_append_rec entKind_ok rfl _ _ 24 36 rfl w.heap.size i0 _ 64 Try.underlying24 hi0 hz0 hz1 hz2 rfl u5 ys.length ys rfl O5.out _ 1 (⟨ykp, ykc, yvp, yvc, ⟨ykey, yseq, ygone, yval⟩⟩ : EV) rfl rc.out (by unfold maxLen; omega) (by omega) B5.out.size ?_); intro v5 w5 ho5 hg5; have F5 := keep (FINI.out v5 w5 ho5 hg5); clear ho5 hg5)
          go_roundw
          case rel => exact ⟨_, _, _, by go_num, F5.out⟩
          case measure => simp [intOf]; omega
      · have hk0 : ¬ k = 0 := fun e => hkeep (.inl e)
        have hm0 : m2 = 0 := by omega
        have F5 := keep (NX.out ys u5 w2 B2.out L2.out O2.out hI.out.each (by omega) (by rw [VV.out, if_neg (by simp [hk0, hm0])]))
        have k1 : ((k : Int) == 0) = false := by simpa using hk0
        have k3 : ¬ (k : Int) = 0 := by omega
        subst hm0
        go_wp2
        go_roundw
        case rel => exact ⟨_, _, _, by go_num, F5.out⟩
        case measure => simp [intOf]; omega
    · obtain rfl : k = n := by omega
      have VV : Hid (ys.map (·.e) = Mg.asked true (es.map (·.e)) zs) := by
        have h1 := hI.out.val
        have h2 : (es.map (·.e)).drop k = [] := List.drop_of_length_le (by rw [List.length_map, HLEN.out]; omega)
        rw [h2, show ∀ b, Mg.asked b [] (zs.drop m) = [] from fun _ => rfl, List.append_nil] at h1
        exact h1.symm
      go_wp2
      go_ret
      first
        | exact ⟨_, ys, rfl, hI.out.row, hI.out.each, VV.out, HB.out⟩
        | exact ⟨_, rfl, ys, hI.out.row, hI.out.each, VV.out, HB.out⟩
        | exact ⟨ys, hI.out.row, hI.out.each, VV.out, HB.out⟩
set_option maxHeartbeats 2000000 in
set_option maxRecDepth 100000 in
theorem strip_any (ao : Option Addr) (n c : Nat) (es : List EV) (w : World) (hs : RSrc entKind w ao n c es) (hn : n ≤ 1000000) (hc : c ≤ maxLen) :
    Calls Try.prog 38 #[.slice ao n c] w fun e w' => ∃ m, e = .returned (.slice ao m c) ∧ m ≤ n ∧ (es.take m).map (·.e) = Mg.strip (es.map (·.e)) ∧ w' = w := by
  have HS := keep hs
  have HLEN := keep hs.len
  have hcap := hs.cap
  unfold maxLen at hc
  clear hs
  go_enter Try.func38, Try.ntmps38
  go_wp2
  go_loopw [3] (fun i wr => ∃ k : Nat, k ≤ n ∧ i = .int .i64 (k : Int) ∧ Hid (wr = w ∧ Mg.strip (es.map (·.e)) = Mg.strip ((es.take k).map (·.e)))) (fun i _ => (intOf i).toNat)
  case atStart => exact ⟨n, Nat.le_refl _, rfl, rfl, by rw [List.take_of_length_le (by rw [HLEN.out]; exact Nat.le_refl _)]⟩
  case round =>
    obtain ⟨k, hk, rfl, hI⟩ := hrel
    obtain rfl := hI.out.1
    rcases Nat.eq_zero_or_pos k with h0 | h0
    · subst h0
      have mc : (0 : Int) ≤ (c : Int) := by omega
      go_wp2
      go_ret
      exact ⟨0, rfl, Nat.zero_le _, by rw [hI.out.2]; rfl, rfl⟩
    · obtain ⟨j, rfl⟩ : ∃ j, k = j + 1 := ⟨k - 1, by omega⟩
      obtain ⟨b, off, rfl, _, _⟩ := HS.out.form entKind_ok (by omega)
      obtain ⟨y, hy⟩ : ∃ y, es[j]? = some y := ⟨es[j]'(by rw [HLEN.out]; omega), List.getElem?_eq_getElem _⟩
      obtain ⟨p0, p1, p2, p3⟩ := ent_cells HS.out hy
      have TK : Hid ((es.take (j + 1)).map (·.e) = (es.take j).map (·.e) ++ [y.e]) := by
        show _ = _
        rw [List.take_add_one, hy, List.map_append]
        rfl
      have j0 : (0 : Int) < (j : Int) + 1 := by omega
      have j1 : (0 : Int) ≤ (j : Int) := by omega
      have j2 : (j : Int) < (n : Int) := by omega
      have j3 : (j : Int) + 1 ≤ (c : Int) := by omega
      have j4 : (0 : Int) ≤ (j : Int) + 1 := by omega
      have lw : IntKind.i64.wrap ((j : Int)) = (j : Int) := wrap_small _ (by omega) (by omega)
      clear hy
      obtain ⟨ykp, ykc, yvp, yvc, ⟨ykey, yseq, ygone, yval⟩⟩ := y
      simp only at p0 p1 p2 p3 TK
      cases ygone with
      | true =>
        go_wp2
        go_roundw
        case rel =>
          have X : Mg.strip (es.map (·.e)) = Mg.strip ((es.take j).map (·.e)) := by rw [hI.out.2, TK.out, Mg.strip_gone _ _ rfl]
          first
            | exact ⟨j, by omega, by go_num, rfl, X⟩
            | exact ⟨j, by omega, by go_num, trivial, X⟩
        case measure => first | (simp [intOf]; done) | (simp [intOf]; omega)
      | false =>
        go_wp2
        go_ret
        have X : (es.take (j + 1)).map (·.e) = Mg.strip (es.map (·.e)) := by rw [hI.out.2, TK.out, Mg.strip_stay _ _ rfl]
        exact ⟨j + 1, rfl, hk, by first | exact X | (rw [← List.map_take]; exact X), rfl⟩
end Go.Proofs.Ytgdggeacjfhkkaa
