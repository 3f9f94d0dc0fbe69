/- The arguments of stage 5's statements opened: a slice of byte slices, a slice of numbers; no walk. -/
import Derived.Test.YtohnfogdalnilaaDoorKf
import Derived.Test.YtohnfogdalnilaaDoorWk
namespace Go.Proofs.YtohnfogdalnilaaDoor
open Go.ChangeShapes Go.WideShapes Go.ChangeAt Go.RowKit Go.Deep

set_option maxRecDepth 100000 in
/-- A slice of byte slices among the arguments. -/
theorem open_bodies {H : Type} {enc : TypeId × Value → H} {W : World} {v : Value} {d : DataW H} {p : List MemPlace} {base : Nat} (hv : Value.okWide Tryd.prog W .any base 22 v) (h : DataW.Trod enc Tryd.prog W 0 (fun _ => true) true 22 v d p) :
    ∃ ao m c es, v = .slice ao m c ∧ RSrc byteKind W ao m c es ∧ c ≤ maxLen ∧ ∀ e ∈ es, e.cap ≤ maxLen := by
  obtain ⟨a0, len0, cap0, rfl⟩ := okWide_slice Tryd.underlying22 hv
  obtain ⟨fuel, hf⟩ := h
  obtain ⟨ao, m, c, es, h1, h2, h3, h4⟩ := open_recs (enc := enc) (W := W) byteKind_ok (Q := fun e _ => e.cap ≤ maxLen) Tryd.underlying22 (by kernel_rfl) (fun m cs y hy => by
    obtain ⟨v0, rfl⟩ : ∃ v0, cs = [v0] := by
      rcases open_slice Tryd.underlying30 hy with ⟨hcs, _⟩ | ⟨_, _, _, _, _, _, _, hcs, _⟩
      · exact ⟨_, hcs⟩
      · exact ⟨_, hcs⟩
    obtain ⟨ao, m, c, l, q1, q2, q3, _⟩ := open_bytes_of Tryd.underlying30 Tryd.underlying5 cells5 hy
    refine ⟨⟨ao, c, l⟩, ?_, ?_, q3⟩
    · rw [q1]; simp only [byteKind]; rw [q2.len]
    · show Src W ao l.length c l
      rw [q2.len]; exact q2) (v := .slice a0 len0 cap0) (by simpa only [Value.cells] using hf)
  refine ⟨ao, m, c, es, h1, h2, h3, fun e he => ?_⟩
  obtain ⟨i, hi⟩ := List.getElem?_of_mem he
  rcases h4 with ⟨h0, _⟩ | ⟨ds, sp, _, hl, _, hq⟩
  · have := (List.getElem?_eq_some_iff.1 hi).1
    rw [h2.len, h0] at this
    omega
  · have hlt := (List.getElem?_eq_some_iff.1 hi).1
    rw [h2.len, ← hl] at hlt
    exact hq i e _ hi (List.getElem?_eq_getElem hlt)
end Go.Proofs.YtohnfogdalnilaaDoor
