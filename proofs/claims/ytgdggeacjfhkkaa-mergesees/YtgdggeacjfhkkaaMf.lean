/- The walk of Merge. -/
import Derived.Test.YtgdggeacjfhkkaaMe
namespace Go.Proofs.Ytgdggeacjfhkkaa.Mg
open Go.Proofs.Ytgdggeacjfhkkaa
open Go.Proofs.Ytgdggeacjfhkkaa.Sk (Ent Goes Up)
theorem parts_up : ∀ (l : List Ent) (g : List Ent), g ∈ parts ahead l → Up g
  | [], g, h => by cases h
  | [a], g, h => by rw [parts_one] at h; rw [List.mem_singleton.1 h]; exact ⟨(fun _ h => by cases h), trivial⟩
  | a :: b :: l, g, h => by
    have ih := parts_up (b :: l)
    obtain ⟨g0, gs, h0⟩ := parts_ne ahead b l
    cases hp : ahead a b with
    | true =>
      rw [parts_yes h0 hp] at h
      rcases List.mem_cons.1 h with h | h
      · have h1 := ih (b :: g0) (by rw [h0]; exact List.mem_cons_self ..)
        rw [h]
        refine ⟨fun x hx => ?_, h1⟩
        rcases List.mem_cons.1 hx with rfl | hx
        · exact hp
        · exact goes_trans' hp (h1.1 x hx)
      · exact ih g (by rw [h0]; exact List.mem_cons_of_mem _ h)
    | false =>
      rw [parts_no hp] at h
      rcases List.mem_cons.1 h with h | h
      · rw [h]; exact ⟨(fun _ h => by cases h), trivial⟩
      · exact ih g h
end Go.Proofs.Ytgdggeacjfhkkaa.Mg
namespace Go.Proofs.Ytgdggeacjfhkkaa
open Go.RowKit
open Sk (Ent)

/-- How many entries lists have. -/
def total (ls : List LV) : Nat := ((ls.map (·.es)).flatten).length
/-- How far Merge has come: the first k lists are in rows. -/
structure RowsI (w : World) (ls : List LV) (k : Nat) (rs : List LV) (v : Value) (wr : World) : Prop where
  below : Below w.heap.size w wr
  row : wr.ownsRow w.heap.size 24 1 v rs.length (rv listKind rs)
  each : ∀ y ∈ rs, listKind.held w y ∧ Sk.Up (y.es.map (·.e))
  val : (rs.map (·.es)).flatten = ((ls.take k).map (·.es)).flatten
  num : rs.length ≤ ((ls.take k).map (·.es)).flatten.length
theorem flat_take (ls : List LV) (k : Nat) : ((ls.take k).map (·.es)).flatten.length ≤ (ls.map (·.es)).flatten.length := by
  conv => rhs; rw [← List.take_append_drop k ls]
  rw [List.map_append, List.flatten_append, List.length_append]
  omega
theorem flat_next {ls : List LV} {k : Nat} {y : LV} (h : ls[k]? = some y) : ((ls.take (k + 1)).map (·.es)).flatten = ((ls.take k).map (·.es)).flatten ++ y.es := by
  rw [List.take_add_one, h]
  simp
theorem lents_flat (ls : List LV) : (lents ls).flatten = (ls.map (·.es)).flatten.map (·.e) := by
  unfold lents
  rw [List.map_flatten, List.map_map]
  rfl
set_option maxHeartbeats 4000000 in
set_option maxRecDepth 100000 in
theorem merge_any (p : Option Addr) (N c : Nat) (ls : List LV) (w : World) (hs : RSrc listKind w p N c ls) (hN : N ≤ 1000000) (hyc : ∀ y ∈ ls, y.c ≤ maxLen) (htot : ((ls.map (·.es)).flatten).length ≤ 1000000) (hsm : ∀ l ∈ ls, ∀ y ∈ l.es, y.e.key.length ≤ 140737488355328 ∧ y.e.val.length ≤ 140737488355328) :
    Calls Try.prog 11 #[.slice p N c] w fun e w' => ∃ v ys, e = .returned v ∧ Ents w.heap.size w' v ys ∧ Mg.Mrg ((lents ls).flatten) (ys.map (·.e)) ∧ ys.length ≤ total ls ∧ Below w.heap.size w w' := by
  obtain ⟨j0, hj0, hy0, hy1, hy2⟩ := info_parts3 infoL
  have HS := keep hs
  have HLEN := keep hs.len
  have HT := keep htot
  have HYC := keep hyc
  have SM := keep hsm
  clear hs htot hyc hsm
  go_enter Try.func11, Try.ntmps11
  go_wp2
  go_loopw [3, 8] (fun v i wr => ∃ (k : Nat) (rs : List LV), k ≤ N ∧ i = .int .i64 (k : Int) ∧ Hid (RowsI w ls k rs v wr)) (fun _ i _ => N - (intOf i).toNat)
  case atStart => exact ⟨0, [], Nat.zero_le _, rfl, Below.refl _ _, World.ownsRow_nil _ _ _ _, (fun y h => by cases h), rfl, Nat.zero_le _⟩
  case round =>
    obtain ⟨k, rs, hk, rfl, hI⟩ := hrel
    have HB := keep hI.out.below
    have hrl : rs.length ≤ 1000000 := by
      have h1 := hI.out.num
      have h2 := flat_take ls k
      have h3 := HT.out
      omega
    by_cases hkn : k < N
    · obtain ⟨lb, loff, rfl, _, _⟩ := HS.out.form listKind_ok (by omega)
      obtain ⟨y, hy⟩ : ∃ y, ls[k]? = some y := ⟨ls[k]'(by rw [HLEN.out]; exact hkn), List.getElem?_eq_getElem _⟩
      have hym := List.mem_of_getElem? hy
      have p0 := list_cell (HS.out.below listKind_ok HB.out) hy
      have FN := keep (flat_next hy)
      have FT := keep (flat_take ls (k + 1))
      have hyn : y.es.length ≤ 1000000 := by
        have h1 := FT.out
        have h2 := HT.out
        rw [FN.out, List.length_append] at h1
        omega
      have PA := keep (parts_any0 w 24 Mg.ahead isAhead_any enters_ahead y.p y.es.length y.c y.es wr HB.out (HS.out.held y hym) hyn (HYC.out y hym))
      obtain ⟨yp, yc, yes⟩ := y
      simp only at p0 PA hyn FN
      obtain ⟨M, hM⟩ : ∃ M, yes.length = M := ⟨_, rfl⟩
      have HM := keep hM
      rw [hM] at p0 PA hyn
      have ll : (k : Int) < (N : Int) := by omega
      have l0 : (0 : Int) ≤ (k : Int) := by omega
      clear hy hym hM
      go_wp2_with fail
      refine PA.out.mono ?_
      rintro e w2 ⟨v2, qs, rfl, ho2, hh2, hv2, hl2, hb2⟩
      have B2 := keep (HB.out.trans (hb2.mono HB.out.size))
      have O2 := keep (own_block (w' := w2) hI.out.row (fun g hg => hb2.block g (own_size hI.out.row hg)))
      obtain ⟨qa, qc, rfl, hqs, _⟩ := RSrc.own listKind_ok ho2 (fun z hz => listKind_ok.below (hh2 z hz).1 B2.out)
      have QS := keep hqs
      have QH : Hid (∀ z ∈ qs, listKind.held w z ∧ Sk.Up (z.es.map (·.e))) := fun z hz => ⟨(hh2 z hz).1, by
        have h1 : z.es.map (·.e) ∈ lents qs := List.mem_map.2 ⟨z, hz, rfl⟩
        rw [part_ents hv2] at h1
        exact Mg.parts_up _ _ h1⟩
      have QV : Hid ((qs.map (·.es)).flatten = yes) := by show _ = _; rw [hv2, Mg.parts_flat]
      obtain ⟨Q, hQ⟩ : ∃ Q, qs.length = Q := ⟨_, rfl⟩
      have HQ := keep hQ
      rw [hQ] at QS hl2 ⊢
      have HL2 := keep hl2
      clear ho2 hh2 hv2 hb2 hqs hQ PA p0
      go_wp2_with (at_builtin; go_loud (refine wpList_append_rowsM rfl _ _ 22 24 rfl w.heap.size j0 _ 1 24 Try.underlying22 hj0 hy0 hy1 hy2 rfl (by decide) u3 rs.length (rv listKind rs) rfl O2.out qa Q qc (rv listKind qs) rfl QS.out.nil (by rw [rv_length listKind_ok, HQ.out]; rfl) QS.out.cells (rv_one listKind_ok qs) (by unfold maxLen; omega) (by omega) B2.out.size ?_); intro v3 w3 ho3 hg3; have HO3 := keep ho3; have HG3 := keep hg3; clear ho3 hg3)
      have FI : Hid (RowsI w ls (k + 1) (rs ++ qs) v3 w3) := by
        refine ⟨B2.out.grown HG3.out B2.out.size (fun j hj => (O2.out.lt j hj).1), by rw [List.length_append, HQ.out, rv_append]; exact HO3.out, fun z hz => ?_, ?_, ?_⟩
        · rcases List.mem_append.1 hz with hz | hz
          · exact hI.out.each z hz
          · exact QH.out z hz
        · rw [List.map_append, List.flatten_append, QV.out, FN.out, hI.out.val]
        · rw [FN.out, List.length_append, List.length_append, HQ.out, HM.out]
          have := hI.out.num
          have := HL2.out
          omega
      go_roundw
      case rel => exact ⟨k + 1, rs ++ qs, by omega, by go_num, FI.out⟩
      case measure => simp [intOf]; omega
    · obtain rfl : k = N := by omega
      obtain ⟨ra, rc, e3, hrs, hrc⟩ := RSrc.own listKind_ok hI.out.row (fun z hz => listKind_ok.below (hI.out.each z hz).1 HB.out)
      have VF : Hid ((rs.map (·.es)).flatten = (ls.map (·.es)).flatten) := by
        have h1 := hI.out.val
        rw [List.take_of_length_le (by rw [HLEN.out]; exact Nat.le_refl _)] at h1
        exact h1
      have MG := keep (merged_any rs.length ra rc rs wr hrs hrl hrc (fun z hz => (hI.out.each z hz).2) (by rw [VF.out]; exact HT.out))
      have SM2 : Hid (∀ l ∈ rs, ∀ y ∈ l.es, y.e.key.length ≤ 140737488355328 ∧ y.e.val.length ≤ 140737488355328) := fun l hl y hy => by
        have h1 : y ∈ (rs.map (·.es)).flatten := List.mem_flatten.2 ⟨l.es, List.mem_map.2 ⟨l, hl, rfl⟩, hy⟩
        rw [VF.out] at h1
        obtain ⟨t, ht, hyt⟩ := List.mem_flatten.1 h1
        obtain ⟨l2, hl2, rfl⟩ := List.mem_map.1 ht
        exact SM.out l2 hl2 y hyt
      have RH : Hid (∀ l ∈ rs, ∀ y ∈ l.es, entKind.held wr y) := fun l hl y hy => RSrc.held (listKind_ok.below (hI.out.each l hl).1 HB.out) y hy
      have LF : Hid ((lents rs).flatten = (lents ls).flatten) := by show _ = _; rw [lents_flat, lents_flat, VF.out]
      rw [e3]
      clear hrs hrc e3
      go_wp2_with fail
      refine MG.out.mono ?_
      rintro e w2 ⟨v2, ys, rfl, ho2, hm2, hM2, hl2, hb2⟩
      have B2 := keep (HB.out.trans (hb2.mono HB.out.size))
      obtain ⟨ya, yc, rfl, hys, _⟩ := RSrc.own entKind_ok ho2 (fun y hy => by obtain ⟨l, hl, h⟩ := hm2 y hy; exact entKind_ok.below (RH.out l hl y h) hb2)
      have MM := keep hM2
      have LL2 : Hid (ys.length ≤ total ls) := by unfold total; rw [← VF.out]; exact hl2
      have CP := keep (copies_any ya ys.length yc ys w2 hys (by rw [VF.out] at hl2; have := HT.out; omega) (fun y hy => by obtain ⟨l, hl, h⟩ := hm2 y hy; exact SM2.out l hl y h))
      clear ho2 hm2 hM2 hl2 hb2 hys MG
      go_wp2_with fail
      refine CP.out.mono ?_
      rintro e w3 ⟨v3, zs, rfl, he3, hz3, hb3⟩
      have E3 := keep (he3.base B2.out.size)
      have B3 := keep (B2.out.trans (hb3.mono B2.out.size))
      have M3 := MM.out
      have LL3 : Hid (zs.length ≤ total ls) := by
        have h1 := congrArg List.length hz3
        rw [List.length_map, List.length_map] at h1
        show zs.length ≤ total ls
        rw [h1]
        exact LL2.out
      rw [LF.out, ← hz3] at M3
      have MM3 := keep M3
      clear he3 hz3 hb3 M3
      go_wp2
      go_ret
      first
        | exact ⟨_, zs, rfl, E3.out, MM3.out, LL3.out, B3.out⟩
        | exact ⟨_, rfl, zs, E3.out, MM3.out, LL3.out, B3.out⟩
end Go.Proofs.Ytgdggeacjfhkkaa
