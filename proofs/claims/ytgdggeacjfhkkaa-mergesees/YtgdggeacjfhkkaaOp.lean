/- The arguments of stage 12's statements opened: entries, rows of entries, ints, within the form's reach; no walk. -/
import Derived.Test.YtgdggeacjfhkkaaJq
import Derived.Test.YtgdggeacjfhkkaaM1
import Derived.Test.YtgdggeacjfhkkaaMi
namespace Go.Proofs.Ytgdggeacjfhkkaa
open Go.ChangeShapes Go.WideShapes Go.ChangeAt Go.RowKit
open Sk (Ent)

/-- Entries within reach. -/
def NearE (es : List EV) : Prop := ∀ y ∈ es, y.e.key.length ≤ 140737488355328 ∧ y.e.val.length ≤ 140737488355328
set_option maxRecDepth 100000 in
theorem open_entsD {H : Type} {enc : TypeId × Value → H} {W : World} {fuel : Nat} {v : Value} {x : DataW H × List MemPlace} (h : DataW.trod enc Try.prog W 0 (fun _ => true) true fuel 24 [v] = some x) :
    ∃ ao m c es, v = .slice ao m c ∧ RSrc entKind W ao m c es ∧ c ≤ maxLen ∧ ((∀ n ∈ DataW.weights Try.prog 24 x.1, n ≤ reachBytes) → NearE es ∧ m ≤ 140737488355328) := by
  obtain ⟨ao, m, c, es, h1, h2, h3, h4⟩ := open_recs (enc := enc) (W := W) entKind_ok (Q := fun e y => ∃ d0 d1 d2 d3, y = .agg [d0, d1, d2, d3] ∧ ByDat d0 e.e.key.length e.kc ∧ ByDat d3 e.e.val.length e.vc) Try.underlying24 (by kernel_rfl) (fun m cs y hy => by
    obtain ⟨o, q1, q2, q3⟩ := open_entryD hy
    exact ⟨o, q1, q2, q3⟩) h
  refine ⟨ao, m, c, es, h1, h2, h3, fun hw => ?_⟩
  rcases h4 with ⟨h0, _⟩ | ⟨xs, sp, hx, hl, hcl, hq⟩
  · refine ⟨fun e he => ?_, by omega⟩
    have := h2.len
    rw [h0] at this
    rw [List.length_eq_zero_iff.1 this] at he
    cases he
  · rw [hx] at hw
    have hw0 := hw ((xs.length + sp.length) * Try.prog.bytesOf 36) (by simp [DataW.weights, Try.underlying24])
    rw [bytesE, hcl] at hw0
    unfold reachBytes at hw0
    have hcap := h2.cap
    refine ⟨fun e he => ?_, by omega⟩
    obtain ⟨i, hi⟩ := List.getElem?_of_mem he
    have hlt := (List.getElem?_eq_some_iff.1 hi).1
    rw [h2.len, ← hl] at hlt
    have hd2 := List.getElem?_eq_getElem hlt
    have hs2 := h2.held e he
    have hk := hs2.1.cap
    have hvv := hs2.2.cap
    obtain ⟨d0, d1, d2, d3, hag, hk0, hk3⟩ := hq i e _ hi hd2
    rw [hag] at hd2
    have one : ∀ {dd : DataW H} {mm cc : Nat}, ByDat dd mm cc → mm ≤ cc → (∀ n, n ∈ dd.weights Try.prog 34 → n ∈ DataW.weights Try.prog 36 (DataW.agg [d0, d1, d2, d3])) → mm ≤ 140737488355328 := fun {dd mm cc} hb hle hin => by
      rcases hb with ⟨_, h0⟩ | ⟨el, sp2, h5, h6⟩
      · omega
      · have h8 := hw ((el.length + sp2.length) * Try.prog.bytesOf 5) (by
          simp only [DataW.weights, Try.underlying24, List.mem_cons, List.mem_append]
          right; left
          refine weights_all hd2 _ (hin _ ?_)
          rw [h5]
          simp [DataW.weights, Try.underlying34])
        rw [bytes5, h6] at h8
        unfold reachBytes at h8
        omega
    exact ⟨one hk0 hk (fun n hn => weights_ent (.inl hn)), one hk3 hvv (fun n hn => weights_ent (.inr hn))⟩
theorem reach_of {H : Type} {ts : List TypeId} {ds : List (DataW H)} {j : Nat} {t : TypeId} {d : DataW H} (hsz : (DataW.weightsEach Try.prog ts ds).all (· ≤ reachBytes) = true) (ht : ts[j]? = some t) (hd : ds[j]? = some d) : ∀ n ∈ d.weights Try.prog t, n ≤ reachBytes := fun n hn => by
  have := List.all_eq_true.1 hsz _ (DataW.weights_mem_each ht hd _ hn)
  simpa using this
set_option maxRecDepth 100000 in
/-- A slice of entries. -/
theorem open_entsA {H : Type} {enc : TypeId × Value → H} {W : World} {v : Value} {d : DataW H} {p : List MemPlace} {base : Nat} (hv : Value.okWide Try.prog W .any base 24 v) (h : DataW.Trod enc Try.prog W 0 (fun _ => true) true 24 v d p) :
    ∃ ao m c es, v = .slice ao m c ∧ RSrc entKind W ao m c es ∧ c ≤ maxLen ∧ ((∀ n ∈ DataW.weights Try.prog 24 d, n ≤ reachBytes) → NearE es ∧ m ≤ 140737488355328) := by
  obtain ⟨a0, len0, cap0, rfl⟩ := okWide_slice Try.underlying24 hv
  obtain ⟨fuel, hf⟩ := h
  exact open_entsD (x := (d, p)) (fuel := fuel) (by simpa only [Value.cells] using hf)
/-- Rows within reach. -/
def NearL (ls : List LV) : Prop := ∀ l ∈ ls, NearE l.es
set_option maxRecDepth 100000 in
/-- A slice of rows. -/
theorem open_lists {H : Type} {enc : TypeId × Value → H} {W : World} {v : Value} {d : DataW H} {p : List MemPlace} {base : Nat} (hv : Value.okWide Try.prog W .any base 22 v) (h : DataW.Trod enc Try.prog W 0 (fun _ => true) true 22 v d p) :
    ∃ ao m c ls, v = .slice ao m c ∧ RSrc listKind W ao m c ls ∧ (∀ l ∈ ls, l.c ≤ maxLen) ∧ c ≤ maxLen ∧ ((∀ n ∈ DataW.weights Try.prog 22 d, n ≤ reachBytes) → NearL ls) := by
  obtain ⟨a0, len0, cap0, rfl⟩ := okWide_slice Try.underlying22 hv
  obtain ⟨fuel, hf⟩ := h
  obtain ⟨ao, m, c, ls, h1, h2, h3, h4⟩ := open_recs (enc := enc) (W := W) listKind_ok (Q := fun l y => l.c ≤ maxLen ∧ ((∀ n ∈ DataW.weights Try.prog 24 y, n ≤ reachBytes) → NearE l.es)) Try.underlying22 (by kernel_rfl) (fun m cs y hy => by
    obtain ⟨v, rfl⟩ : ∃ v, cs = [v] := by
      rcases DataW.trod_slice Try.underlying24 hy with ⟨hcs, _⟩ | ⟨_, _, _, _, _, _, _, hcs, _⟩
      · exact ⟨_, hcs⟩
      · exact ⟨_, hcs⟩
    obtain ⟨ao, m, c, es, rfl, q2, q3, q4⟩ := open_entsD hy
    have hm := q2.len
    subst hm
    exact ⟨⟨ao, c, es⟩, rfl, q2, q3, fun h => (q4 h).1⟩) (v := .slice a0 len0 cap0) (by simpa only [Value.cells] using hf)
  have hq : ∀ (i : Nat) (l : LV), ls[i]? = some l → l.c ≤ maxLen ∧ ((∀ n ∈ DataW.weights Try.prog 22 d, n ≤ reachBytes) → NearE l.es) := fun i l hi => by
    rcases h4 with ⟨h0, _⟩ | ⟨xs, sp, hx, hl, hcl, hq⟩
    · have := (List.getElem?_eq_some_iff.1 hi).1
      rw [h2.len, h0] at this
      omega
    · have hlt := (List.getElem?_eq_some_iff.1 hi).1
      rw [h2.len, ← hl] at hlt
      have hd2 := List.getElem?_eq_getElem hlt
      obtain ⟨a1, a2⟩ := hq i l _ hi hd2
      have hx' : d = .slice xs sp := hx
      refine ⟨a1, fun hw => a2 (fun n hn => hw n ?_)⟩
      rw [hx']
      simp only [DataW.weights, Try.underlying22, List.mem_cons, List.mem_append]
      first
        | exact .inr (.inl (weights_all hd2 n hn))
        | (right; left; exact weights_all hd2 n hn)
  refine ⟨ao, m, c, ls, h1, h2, fun l hl => ?_, h3, fun hw l hl => ?_⟩
  · obtain ⟨i, hi⟩ := List.getElem?_of_mem hl
    exact (hq i l hi).1
  · obtain ⟨i, hi⟩ := List.getElem?_of_mem hl
    exact (hq i l hi).2 hw
set_option maxRecDepth 100000 in
/-- A slice of ints. -/
theorem open_intsA {H : Type} {enc : TypeId × Value → H} {W : World} {v : Value} {d : DataW H} {p : List MemPlace} {base : Nat} (hv : Value.okWide Try.prog W .any base 28 v) (h : DataW.Trod enc Try.prog W 0 (fun _ => true) true 28 v d p) :
    ∃ ao m c zs, v = .slice ao m c ∧ RSrc inK W ao m c zs := by
  obtain ⟨a0, len0, cap0, rfl⟩ := okWide_slice Try.underlying28 hv
  obtain ⟨fuel, hf⟩ := h
  obtain ⟨ao, m, c, es, h1, h2, _, _⟩ := open_recs (enc := enc) (W := W) inK_ok (Q := fun _ _ => True) Try.underlying28 (by kernel_rfl) (fun m cs y hy => by
    obtain ⟨z, hz, _, _⟩ := DataW.trod_int Try.underlying3 hy
    exact ⟨z, hz, trivial, trivial⟩) (v := .slice a0 len0 cap0) (by simpa only [Value.cells] using hf)
  exact ⟨ao, m, c, es, h1, h2⟩
end Go.Proofs.Ytgdggeacjfhkkaa
