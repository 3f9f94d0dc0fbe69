/- A slice of files among the arguments opened, and how much it holds; no walk. -/
import Derived.Test.YtfjhfecjbheipaaLga
import Derived.Test.YtfjhfecjbheipaaOp
namespace Go.Proofs.Ytfjhfecjbheipaa
open Go.ChangeShapes Go.WideShapes Go.ChangeAt Go.RowKit Go.Deep

theorem bulk_all {H : Type} : ∀ (es : List Ent) (ds : List (DataW H)), es.length = ds.length → (∀ (i : Nat) (e : Ent) (d : DataW H), es[i]? = some e → ds[i]? = some d → e.name.length + e.bytes.length + 1 ≤ Rows.uptoBulk d) → bulk es ≤ 116 * Rows.uptoBulkAll ds
  | [], _, _, _ => Nat.zero_le _
  | e :: t, [], hl, _ => by simp at hl
  | e :: t, d :: r, hl, h => by
    have h1 := h 0 e d rfl rfl
    have h2 := bulk_all t r (by simpa using hl) (fun i e' d' he hd => h (i + 1) e' d' he hd)
    simp only [bulk, Rows.uptoBulkAll]
    omega
set_option maxRecDepth 100000 in
/-- A slice of the document's files. -/
theorem open_files {H : Type} {enc : TypeId × Value → H} {W : World} {v : Value} {d : DataW H} {p : List MemPlace} {base : Nat} (hv : Value.okWide Try.prog W .any base 22 v) (h : DataW.Trod enc Try.prog W 0 (fun _ => true) true 22 v d p) :
    ∃ ao m c es, v = .slice ao m c ∧ RSrc fileKind W ao m c es ∧ (∀ e ∈ es, e.name.length ≤ maxLen) ∧ m ≤ Rows.uptoBulk d ∧ bulk es ≤ 116 * Rows.uptoBulk d := by
  obtain ⟨a0, len0, cap0, rfl⟩ := okWide_slice Try.underlying22 hv
  obtain ⟨fuel, hf⟩ := h
  obtain ⟨ao, m, c, es, h1, h2, h3, h4⟩ := open_recs fileKind_ok (Q := fun e y => e.name.length ≤ maxLen ∧ e.name.length + e.bytes.length + 1 ≤ Rows.uptoBulk y) Try.underlying22 (by kernel_rfl) (fun m cs y hy => by
    obtain ⟨e, q1, q2, _, _, q5, q6⟩ := open_ent base_types Try.underlying71 (by kernel_rfl) ⟨rfl, rfl⟩ ⟨rfl, rfl⟩ ⟨rfl, rfl⟩ hy
    exact ⟨e, q1, q2, q5, q6⟩) (v := .slice a0 len0 cap0) (by simpa only [Value.cells] using hf)
  have hl := h2.len
  rcases h4 with ⟨h0, _⟩ | ⟨ds, sp, hx, hd, _, hq⟩
  · rw [h0] at hl
    have he : es = [] := List.length_eq_zero_iff.1 hl
    subst he
    exact ⟨ao, m, c, [], h1, h2, (fun e he => by cases he), by omega, Nat.zero_le _⟩
  · refine ⟨ao, m, c, es, h1, h2, fun e he => ?_, ?_, ?_⟩
    · obtain ⟨i, hi⟩ := List.getElem?_of_mem he
      have hlt := (List.getElem?_eq_some_iff.1 hi).1
      rw [hl, ← hd] at hlt
      exact (hq i e _ hi (List.getElem?_eq_getElem hlt)).1
    · have h5 : d = .slice ds sp := hx
      have h6 := bulk_length ds
      rw [h5]
      simp only [Rows.uptoBulk]
      omega
    · have h5 : d = .slice ds sp := hx
      have h6 := bulk_all es ds (by rw [hl, hd]) (fun i e y he hy => (hq i e y he hy).2)
      rw [h5]
      simp only [Rows.uptoBulk]
      omega
end Go.Proofs.Ytfjhfecjbheipaa
