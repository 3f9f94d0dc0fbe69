/- The walk of the document's Merge. -/
import Derived.Test.YtgdggeacjfhkkaaNp
import Derived.Test.YtgdggeacjfhkkaaNq
import Derived.Test.YtgdggeacjfhkkaaMf
namespace Go.Proofs.Ytgdggeacjfhkkaa
open Go.RowKit
open Sk (Ent)

/-- How far the document's Merge has come: what is there is D merged. -/
structure PutI (w : World) (D : List Ent) (n : Nat) (a : Option Addr) (m c : Nat) (zs : List EV) (wr : World) : Prop where
  below : Below w.heap.size w wr
  src : RSrc entKind wr a m c zs
  mrg : Mg.Mrg D (zs.map (·.e))
  num : m ≤ n
  cap : c ≤ maxLen
  full : 0 < m ∨ c = 0
theorem PutI.nil (w : World) : PutI w [] 0 none 0 0 [] w := ⟨Below.refl _ _, RSrc.empty (fun _ => rfl), Mg.Mrg.nil, Nat.le_refl _, Nat.zero_le _, .inr rfl⟩
theorem mrg_near {D : List Ent} {zs : List EV} {P : Ent → Prop} (h : Mg.Mrg D (zs.map (·.e))) (hD : ∀ e ∈ D, P e) : ∀ z ∈ zs, P z.e := fun z hz =>
  hD _ (List.mem_of_find?_eq_some ((h.mem z.e).1 (List.mem_map.2 ⟨z, hz, rfl⟩)))
theorem PutI.next {w : World} {D : List Ent} {n : Nat} {a : Option Addr} {m c : Nat} {zs : List EV} {wr w' : World} (h : PutI w D n a m c zs wr) {y : EV} {a' : Option Addr} {m' c' : Nat} {zs' : List EV}
    (hs : RSrc entKind w' a' m' c' zs') (h0 : 0 < m') (hc : c' ≤ maxLen)
    (hz : (zs' = zs ∧ ∃ x ∈ zs, Mg.alike x.e y.e = true) ∨ ∃ k v, zs' = zs.take k ++ [v] ++ zs.drop k ∧ k ≤ m ∧ v.e = y.e ∧ (∀ j x, j < k → zs[j]? = some x → Mg.ahead x.e y.e = true) ∧ ∀ x, zs[k]? = some x → Mg.ahead x.e y.e = false ∧ Mg.alike x.e y.e = false)
    (hb : Below wr.heap.size wr w') : PutI w (D ++ [y.e]) (n + 1) a' m' c' zs' w' := by
  have hl := h.src.len
  have hl' := hs.len
  have hn := h.num
  rcases hz with ⟨rfl, x, hx, ha⟩ | ⟨k, v, rfl, hk, hv, h1, h2⟩
  · exact ⟨h.below.trans (hb.mono h.below.size), hs, h.mrg.skip (List.mem_map.2 ⟨x, hx, rfl⟩) ha, by omega, hc, .inl h0⟩
  · refine ⟨h.below.trans (hb.mono h.below.size), hs, ?_, ?_, hc, .inl h0⟩
    · have e1 : zs.map (·.e) = (zs.take k).map (·.e) ++ (zs.drop k).map (·.e) := by rw [← List.map_append, List.take_append_drop]
      have h3 := h.mrg
      rw [e1] at h3
      have h4 := h3.ins (e := y.e) (fun b hb => by
        obtain ⟨x, hx, rfl⟩ := List.mem_map.1 hb
        obtain ⟨j, hj⟩ := List.mem_iff_getElem?.1 hx
        rw [List.getElem?_take] at hj
        split at hj
        · rename_i hjk
          exact h1 j x hjk hj
        · cases hj) (fun b hb => by
        rw [List.getElem?_map, List.getElem?_drop] at hb
        cases hx : zs[k]? with
        | none => rw [Nat.add_zero, hx] at hb; cases hb
        | some x =>
          rw [Nat.add_zero, hx] at hb
          cases hb
          exact h2 x hx)
      rw [List.map_append, List.map_append, List.append_assoc]
      simp only [List.map_cons, List.map_nil, hv]
      exact h4
    · simp only [List.length_append, List.length_take, List.length_drop, List.length_cons, List.length_nil] at hl'
      omega
theorem lents_next {ls : List LV} {k : Nat} {y : LV} (h : ls[k]? = some y) : (lents (ls.take (k + 1))).flatten = (lents (ls.take k)).flatten ++ y.es.map (·.e) := by
  rw [lents_flat, lents_flat, flat_next h, List.map_append]
theorem total_next {ls : List LV} {k : Nat} {y : LV} (h : ls[k]? = some y) : total (ls.take (k + 1)) = total (ls.take k) + y.es.length := by
  unfold total
  rw [flat_next h, List.length_append]
theorem total_take (ls : List LV) (k : Nat) : total (ls.take k) ≤ total ls := flat_take ls k
theorem lents_all {ls : List LV} {P : Ent → Prop} (h : ∀ l ∈ ls, ∀ y ∈ l.es, P y.e) : ∀ e ∈ (lents ls).flatten, P e := fun e he => by
  rw [lents_flat] at he
  obtain ⟨x, hx, rfl⟩ := List.mem_map.1 he
  obtain ⟨t, ht, hxt⟩ := List.mem_flatten.1 hx
  obtain ⟨l, hl, rfl⟩ := List.mem_map.1 ht
  exact h l hl x hxt
/-- Sizes that a copy may have. -/
def Small (e : Ent) : Prop := e.key.length ≤ 140737488355328 ∧ e.val.length ≤ 140737488355328

set_option maxHeartbeats 4000000 in
set_option maxRecDepth 100000 in
theorem rmerge_any (p : Option Addr) (N c : Nat) (ls : List LV) (w : World) (hs : RSrc listKind w p N c ls) (hN : N ≤ 1000000) (htot : total ls ≤ 900000) (hsm : ∀ l ∈ ls, ∀ y ∈ l.es, Small y.e) :
    Calls Try.prog 12 #[.slice p N c] w fun e w' => ∃ a m c' zs, e = .returned (.slice a m c') ∧ RSrc entKind w' a m c' zs ∧ Mg.Mrg ((lents ls).flatten) (zs.map (·.e)) ∧ Below w.heap.size w w' := by
  have HS := keep hs
  have HLEN := keep hs.len
  have HT := keep htot
  have SM := keep hsm
  have hN1 : (N : Int) ≤ 1000000 := by omega
  clear hs htot hsm
  go_enter Try.func12, Try.ntmps12
  go_wp2
  go_loopw [3, 4] (fun v i wr => ∃ (k : Nat) (a : Option Addr) (m c' : Nat) (zs : List EV), k ≤ N ∧ i = .int .i64 (k : Int) ∧ v = .slice a m c' ∧ Hid (PutI w (lents (ls.take k)).flatten (total (ls.take k)) a m c' zs wr)) (fun _ i _ => N - (intOf i).toNat)
  case atStart => exact ⟨0, none, 0, 0, [], Nat.zero_le _, rfl, rfl, PutI.nil w⟩
  case round =>
    obtain ⟨i, a, m, c', zs, hi, rfl, rfl, hI⟩ := hrel
    have HI := keep hI.out
    have HB := keep hI.out.below
    by_cases hin : i < N
    · obtain ⟨b, off, rfl, _, _⟩ := HS.out.form listKind_ok (by omega)
      obtain ⟨y, hy⟩ : ∃ y, ls[i]? = some y := ⟨ls[i]'(by rw [HLEN.out]; exact hin), List.getElem?_eq_getElem _⟩
      have HY := keep hy
      have hym := List.mem_of_getElem? hy
      have LN := keep (lents_next hy)
      have TN := keep (total_next hy)
      have hyl : y.es.length ≤ 900000 := by
        have h1 := TN.out
        have h2 := total_take ls (i + 1)
        have h3 := HT.out
        omega
      have SMY := keep (SM.out y hym)
      have SMD : Hid (∀ e ∈ (lents (ls.take i)).flatten, Small e) := lents_all (fun l hl => SM.out l (List.mem_of_mem_take hl))
      obtain ⟨wo, hwo⟩ : ∃ wo, wo = wr := ⟨_, rfl⟩
      rw [← hwo] at HB HI ⊢
      have i5 : (i : Int) ≤ 1000000 := by omega
      have g0 : (0 : Int) ≤ (i : Int) := by omega
      have g1 : (i : Int) < (N : Int) := by omega
      clear hwo hI hy
      obtain ⟨Y, hY⟩ : ∃ Y, y.es.length = Y := ⟨_, rfl⟩
      have HYL := keep hY
      rw [hY] at hyl TN
      have TB : Hid (total (ls.take i) + Y ≤ 900000) := by
        have h1 := TN.out
        have h2 := total_take ls (i + 1)
        have h3 := HT.out
        show _ ≤ _
        omega
      obtain ⟨D, hD⟩ : ∃ D, (lents (ls.take i)).flatten = D := ⟨_, rfl⟩
      obtain ⟨T, hT⟩ : ∃ T, total (ls.take i) = T := ⟨_, rfl⟩
      rw [hD] at HI LN SMD
      rw [hT] at HI TN TB
      clear hY hD hT
      go_wp2
      go_loopw [3, 5] (fun v j wr => ∃ (k : Nat) (a : Option Addr) (m c' : Nat) (zs : List EV), k ≤ Y ∧ j = .int .i64 (k : Int) ∧ v = .slice a m c' ∧ Hid (PutI w (D ++ (y.es.take k).map (·.e)) (T + k) a m c' zs wr)) (fun _ j _ => Y - (intOf j).toNat)
      case atStart => exact ⟨0, a, m, c', zs, Nat.zero_le _, rfl, rfl, by show PutI w _ _ _ _ _ _ _; rw [List.take_zero, List.map_nil, List.append_nil]; exact HI.out⟩
      case round =>
        obtain ⟨k, a2, m2, c2, zs2, hk, rfl, rfl, hJ⟩ := hrel
        have BJ := keep hJ.out.below
        have S6 := HS.out.below listKind_ok BJ.out
        have cl := list_cell S6 HY.out
        rw [HYL.out] at cl
        by_cases hkn : k < Y
        · have R6 : RSrc entKind wr y.p Y y.c y.es := by have := S6.held y hym; rw [← HYL.out]; exact this
          obtain ⟨x, hx⟩ : ∃ x, y.es[k]? = some x := ⟨y.es[k]'(by rw [HYL.out]; exact hkn), List.getElem?_eq_getElem _⟩
          have xm := List.mem_of_getElem? hx
          obtain ⟨d, o, hyp, _, _⟩ := R6.form entKind_ok (by omega)
          obtain ⟨yc, hyc⟩ : ∃ yc, y.c = yc := ⟨_, rfl⟩
          rw [hyp, hyc] at cl R6
          obtain ⟨p0, p1, p2, p3⟩ := ent_cells R6 hx
          have hm2 := hJ.out.num
          have PA := keep (put_any a2 m2 c2 zs2 x wr hJ.out.src (by have := TB.out; omega) hJ.out.cap hJ.out.full (R6.held x xm) (mrg_near (P := Small) hJ.out.mrg (fun e he => by
            rcases List.mem_append.1 he with he | he
            · exact SMD.out e he
            · obtain ⟨z, hz, rfl⟩ := List.mem_map.1 he
              exact SMY.out z (List.mem_of_mem_take hz))) (SMY.out x xm))
          have TK : Hid (D ++ (y.es.take (k + 1)).map (·.e) = (D ++ (y.es.take k).map (·.e)) ++ [x.e]) := by
            show _ = _
            rw [List.take_add_one, hx, List.map_append, List.append_assoc]; rfl
          have k5 : (k : Int) ≤ 900000 := by omega
          have j0 : (0 : Int) ≤ (k : Int) := by omega
          have j1 : (k : Int) < (Y : Int) := by omega
          have NX := keep (fun (w' : World) (a' : Option Addr) (m' c' : Nat) (zs' : List EV) h1 h2 h3 h4 h5 => PutI.next (y := x) (w' := w') (a' := a') (m' := m') (c' := c') (zs' := zs') hJ.out h1 h2 h3 h4 h5)
          rw [← TK.out] at NX
          clear hx xm hyp hyc R6 S6 hJ hm2
          obtain ⟨xkp, xkc, xvp, xvc, ⟨xkey, xseq, xgone, xval⟩⟩ := x
          unfold ev at PA
          simp only at PA p0 p1 p2 p3
          go_wp2_with fail
          refine PA.out.mono ?_
          rintro e w3 ⟨a3, m3, c3, zs3, rfl, h1, h2, h3, h4, h5⟩
          have FI := keep (NX.out w3 a3 m3 c3 zs3 h1 h2 h3 h4 h5)
          clear h1 h2 h3 h4 h5 PA NX
          go_wp2
          go_roundw
          case rel => exact ⟨k + 1, a3, m3, c3, zs3, by omega, by go_num, rfl, FI.out⟩
          case measure => simp [intOf]; omega
        · obtain rfl : Y = k := by omega
          have FI : Hid (PutI w (lents (ls.take (i + 1))).flatten (total (ls.take (i + 1))) a2 m2 c2 zs2 wr) := by
            have h1 := hJ.out
            rw [List.take_of_length_le (by rw [HYL.out]; exact Nat.le_refl _)] at h1
            rw [LN.out, TN.out]
            exact h1
          have j1 : ¬ (Y : Int) < (Y : Int) := by omega
          clear hJ
          go_wp2
          go_roundw
          case rel => exact ⟨i + 1, a2, m2, c2, zs2, by omega, by go_num, rfl, FI.out⟩
          case measure => simp [intOf]; omega
    · obtain rfl : N = i := by omega
      have FI := HI.out
      rw [List.take_of_length_le (by rw [HLEN.out]; exact Nat.le_refl _)] at FI
      have FK := keep FI
      clear FI hI
      go_wp2
      go_ret
      exact ⟨_, _, _, zs, rfl, FK.out.src, FK.out.mrg, FK.out.below⟩
end Go.Proofs.Ytgdggeacjfhkkaa
