/- The arguments of stage 15's statements opened: texts, rows of texts, rows of byte slices; what the rows lay; no walk. -/
import Derived.Test.YtdgfbbaddoghaaaDoorCards
import Derived.Test.YtdgfbbaddoghaaaDoorTie
import Derived.Test.YtdgfbbaddoghaaaDoorPa
import Derived.Test.YtdgfbbaddoghaaaDoorO
import Derived.Test.YtdgfbbaddoghaaaDoorSxL
import Derived.Deep.DeepHandedRow
import Derived.Stop.LaidErr
import Derived.Stop.JoinedAt
import Derived.LaidLaws
import Derived.SliceStrings
import Derived.ChangeMaps5
import Derived.Deep.Strs
namespace Go.Proofs.YtdgfbbaddoghaaaDoor
open Go.ChangeShapes Go.WideShapes Go.ChangeAt Go.RowKit Go.Deep

theorem open_bytes_dat {H : Type} {enc : TypeId × Value → H} {W : World} {n : Nat} {v : Value} {x : DataW H × List MemPlace} (h : DataW.trod enc Tryd.prog W 0 (fun _ => true) true n 48 [v] = some x) :
    ∃ ao m c l, v = .slice ao m c ∧ Src W ao m c l ∧ (x.1 = .nil ∧ m = 0 ∨ ∃ elems spare, x.1 = .slice elems spare ∧ elems.length + spare.length = c) := by
  rcases open_ints Tryd.underlying48 Tryd.underlying5 cells5 h with ⟨hcs, hx⟩ | ⟨a, len, cap, zs, hcs, _, hl, hm, hz, hx, hcell, hwz⟩
  · simp only [List.cons.injEq, and_true] at hcs
    exact ⟨none, 0, 0, [], hcs, Src.empty (fun _ => rfl), .inl ⟨by rw [hx], rfl⟩⟩
  · simp only [List.cons.injEq, and_true] at hcs
    simp at hz
    refine ⟨some a, len, cap, bl (zs.take len), hcs, ?_, .inr ⟨_, _, by rw [hx], ?_⟩⟩
    · refine ⟨by simp [bl]; omega, hl, (fun h => by cases h), fun ad had j u hu => ?_⟩
      cases had
      have hj : j < (bl (zs.take len)).length := by
        have := (List.getElem?_eq_some_iff.1 hu).1
        rwa [bv_length] at this
      have hj2 : j < (zs.take len).length := by simpa [bl] using hj
      rw [bv_at _ j hj] at hu
      cases hu
      rw [bl_at (zs.take len) j hj2 (fun n hn => hwz n (List.mem_of_mem_take hn)), hcell j (by simp at hj2; omega)]
      congr 2
      have h1 : j < len := by simp at hj2; omega
      rw [List.getD_eq_getElem?_getD, List.getD_eq_getElem?_getD, List.getElem?_take, if_pos h1]
    · simp [lits]
      omega
theorem weights_all {H : Type} {P : Program} {e : TypeId} : ∀ {ds : List (DataW H)} {i : Nat} {d : DataW H}, ds[i]? = some d → ∀ n ∈ d.weights P e, n ∈ DataW.weightsAll P e ds
  | d0 :: ds, 0, d, hd, n, hn => by
    simp only [List.getElem?_cons_zero, Option.some.injEq] at hd
    subst hd
    simp only [DataW.weightsAll, List.mem_append]
    exact .inl hn
  | d0 :: ds, i + 1, d, hd, n, hn => by
    simp only [List.getElem?_cons_succ] at hd
    simp only [DataW.weightsAll, List.mem_append]
    exact .inr (weights_all hd n hn)
  | [], _, _, hd, _, _ => by simp at hd
theorem bytes22 : Tryd.prog.bytesOf 48 = 24 := by kernel_rfl
set_option maxRecDepth 100000 in
/-- A slice of byte slices among the arguments. -/
theorem open_keys {H : Type} {enc : TypeId × Value → H} {W : World} {v : Value} {d : DataW H} {p : List MemPlace} {base : Nat} {ts : List TypeId} {ds : List (DataW H)} {j : Nat} (hsz : (DataW.weightsEach Tryd.prog ts ds).all (· ≤ reachBytes) = true) (ht : ts[j]? = some 26) (hd : ds[j]? = some d)
    (hv : Value.okWide Tryd.prog W .any base 26 v) (h : DataW.Trod enc Tryd.prog W 0 (fun _ => true) true 26 v d p) :
    ∃ ao m c es, v = .slice ao m c ∧ RSrc byteKind W ao m c es ∧ m ≤ 5864062014634 ∧ ∀ e ∈ es, e.bytes.length ≤ 140737488351232 := by
  obtain ⟨a0, len0, cap0, rfl⟩ := okWide_slice Tryd.underlying26 hv
  obtain ⟨fuel, hf⟩ := h
  obtain ⟨ao, m, c, es, h1, h2, h3, h4⟩ := open_recs (enc := enc) (W := W) byteKind_ok (Q := fun e y => y = .nil ∧ e.bytes.length = 0 ∨ ∃ elems spare, y = .slice elems spare ∧ elems.length + spare.length = e.cap) Tryd.underlying26 (by kernel_rfl) (fun m cs y hy => by
    obtain ⟨v0, rfl⟩ : ∃ v0, cs = [v0] := by
      rcases open_slice Tryd.underlying48 hy with ⟨hcs, _⟩ | ⟨_, _, _, _, _, _, _, hcs, _⟩
      · exact ⟨_, hcs⟩
      · exact ⟨_, hcs⟩
    obtain ⟨ao, m, c, l, q1, q2, q3⟩ := open_bytes_dat hy
    refine ⟨⟨ao, c, l⟩, ?_, ?_, ?_⟩
    · rw [q1]; simp only [byteKind]; rw [q2.len]
    · show Src W ao l.length c l
      rw [q2.len]; exact q2
    · rcases q3 with ⟨q3, q4⟩ | q3
      · exact .inl ⟨q3, by show l.length = 0; rw [q2.len, q4]⟩
      · exact .inr q3) (v := .slice a0 len0 cap0) (by simpa only [Value.cells] using hf)
  have hcap := h2.cap
  rcases h4 with ⟨h0, _⟩ | ⟨xs, sp, hx, hl, hcl, hq⟩
  · refine ⟨ao, m, c, es, h1, h2, by omega, fun e he => ?_⟩
    have := h2.len
    rw [h0] at this
    rw [List.length_eq_zero_iff.1 this] at he
    cases he
  · have hx' : d = .slice xs sp := hx
    have hw := sized_slice hsz ht (hx' ▸ hd) Tryd.underlying26
    rw [bytes22, hcl] at hw
    unfold reachBytes at hw
    refine ⟨ao, m, c, es, h1, h2, by omega, fun e he => ?_⟩
    obtain ⟨i, hi⟩ := List.getElem?_of_mem he
    have hlt := (List.getElem?_eq_some_iff.1 hi).1
    rw [h2.len, ← hl] at hlt
    have hd2 := List.getElem?_eq_getElem hlt
    have hs2 : Src W e.ptr e.bytes.length e.cap e.bytes := h2.held e he
    have hec := hs2.cap
    rcases hq i e _ hi hd2 with ⟨_, h0⟩ | ⟨el, sp2, h5, h6⟩
    · omega
    · have h7 : (el.length + sp2.length) * Tryd.prog.bytesOf 5 ∈ DataW.weights Tryd.prog 26 (DataW.slice xs sp) := by
        simp only [DataW.weights, Tryd.underlying26, List.mem_cons, List.mem_append]
        right; left
        refine weights_all hd2 _ ?_
        rw [h5]
        simp [DataW.weights, Tryd.underlying48]
      have h8 := List.all_eq_true.1 hsz _ (DataW.weights_mem_each ht (hx' ▸ hd) _ h7)
      simp only [decide_eq_true_eq] at h8
      rw [bytes5, h6] at h8
      unfold reachBytes at h8
      omega
theorem bytes9 : Tryd.prog.bytesOf 9 = 16 := by kernel_rfl
theorem own15 : ownKnob Tryd.prog.godebug = none := by kernel_rfl
theorem bulk_in {H : Type} : ∀ {ds : List (DataW H)} {x : DataW H}, x ∈ ds → Rows.uptoBulk x ≤ Rows.uptoBulkAll ds
  | d :: ds, x, h => by
    simp only [Rows.uptoBulkAll]
    rcases List.mem_cons.1 h with rfl | h
    · omega
    · have := bulk_in h
      omega
set_option maxRecDepth 100000 in
/-- A row of texts among the arguments. -/
theorem open_texts {H : Type} {enc : TypeId × Value → H} {W : World} {v : Value} {d : DataW H} {p : List MemPlace} {base : Nat} {ts : List TypeId} {ds : List (DataW H)} {j : Nat} (hsz : (DataW.weightsEach Tryd.prog ts ds).all (· ≤ reachBytes) = true) (ht : ts[j]? = some 22) (hd : ds[j]? = some d)
    (hv : Value.okWide Tryd.prog W .any base 22 v) (h : DataW.Trod enc Tryd.prog W 0 (fun _ => true) true 22 v d p) :
    ∃ ao m c es, v = .slice ao m c ∧ RSrc strKind W ao m c es ∧ m ≤ 8796093021952 ∧ (∀ e ∈ es, e.length + 1 ≤ Rows.uptoBulk d) ∧ m ≤ Rows.uptoBulk d := by
  obtain ⟨a0, len0, cap0, rfl⟩ := okWide_slice Tryd.underlying22 hv
  obtain ⟨fuel, hf⟩ := h
  obtain ⟨ao, m, c, es, h1, h2, h3, h4⟩ := open_recs (enc := enc) (W := W) strKind_ok (Q := fun e y => y = .lit (.string e)) Tryd.underlying22 (by kernel_rfl) (fun m cs y hy => by
    obtain ⟨s, rfl, rfl, _⟩ := DataW.trod_string Tryd.underlying9 hy
    exact ⟨s.data.toList, by cases s; simp [strKind], trivial, rfl⟩) (v := .slice a0 len0 cap0) (by simpa only [Value.cells] using hf)
  have hcap := h2.cap
  rcases h4 with ⟨h0, hn⟩ | ⟨xs, sp, hx, hl, hcl, hq⟩
  · refine ⟨ao, m, c, es, h1, h2, by omega, fun e he => ?_, by omega⟩
    have := h2.len
    rw [h0] at this
    rw [List.length_eq_zero_iff.1 this] at he
    cases he
  · have hx' : d = .slice xs sp := hx
    have hw := sized_slice hsz ht (hx' ▸ hd) Tryd.underlying22
    rw [bytes9, hcl] at hw
    unfold reachBytes at hw
    have hbl : Rows.uptoBulkAll xs + 1 ≤ Rows.uptoBulk d := by rw [hx']; simp only [Rows.uptoBulk]; omega
    refine ⟨ao, m, c, es, h1, h2, by omega, fun e he => ?_, ?_⟩
    · obtain ⟨i, hi⟩ := List.getElem?_of_mem he
      have hlt := (List.getElem?_eq_some_iff.1 hi).1
      rw [h2.len, ← hl] at hlt
      have hd2 := List.getElem?_eq_getElem hlt
      have h5 := hq i e _ hi hd2
      have h6 := bulk_in (List.mem_of_getElem? hd2)
      rw [h5] at h6
      have h7 : Rows.uptoBulk (DataW.lit (H := H) (.string e)) = e.length + 1 := by simp only [Rows.uptoBulk]
      omega
    · have := bulk_length xs
      omega
theorem laid_ld {W : World} (h' : laidMet Tryd.prog [("sawyer/sha.first", Lib.tabData .u32 Sha.f8), ("sawyer/sha.table", Lib.tabData .u32 Sha.k64)] W) : Ld W := ⟨(Sha.laid_both h').2, (Sha.laid_both h').1⟩
theorem text_of (s : ByteArray) : ∃ t : List UInt8, s = ⟨t.toArray⟩ := ⟨s.data.toList, by cases s; simp⟩
end Go.Proofs.YtdgfbbaddoghaaaDoor
