/- What the rows' list of variables gives: the library's table, the package's own error; a world that holds them and the library's two errors; no walk. -/
/- What RowsSigns' list of variables gives: the library's table, the package's own error, package sha's two; a world that holds them; no walk. -/
import Derived.Test.YtogphpejdnhnjaaGreatDoorCards
import Derived.Test.YtogphpejdnhnjaaGreatDoorTie
import Derived.Test.YtogphpejdnhnjaaGreatDoorWn
import Derived.Test.YtogphpejdnhnjaaGreatDoorJoinEcc
import Derived.Test.YtogphpejdnhnjaaGreatDoorJoinEkc
import Derived.Deep.DeepHandedRow
import Derived.Stop.LaidErr
import Derived.Stop.JoinedAt
import Derived.LaidLaws
import Derived.Lib.LaidTab
import Derived.Test.YtogphpejdnhnjaaGreatDoorJoinSxL
namespace Go.Proofs.YtogphpejdnhnjaaGreatDoor
open Go.RowKit

theorem gP : Tryz.prog.globalNamed "internal/strconv.uint64pow10" = some 7 := by kernel_rfl
theorem gPT : (Tryz.prog.globals[7]?).map (·.type) = some 437 := by kernel_rfl
theorem cellsP : Tryz.prog.cellsOf 437 = 20 := by kernel_rfl
theorem cellsU : Tryz.prog.cellsOf 227 = 1 := by kernel_rfl
theorem gE : Tryz.prog.globalNamed "sawyer/key.errNotMade" = some 1 := by kernel_rfl
theorem gEType : (Tryz.prog.globals[1]?).map (·.type) = some 178 := by kernel_rfl
theorem cellsErr : Tryz.prog.cellsOf 425 = 1 := by kernel_rfl
theorem cells9 : Tryz.prog.cellsOf 9 = 1 := by kernel_rfl
theorem star : "*" ++ "errors.errorString" = "*errors.errorString" := by decide
theorem rowErr (u : TypeId) (h : Tryz.prog.typeName? 3 u = some "*errors.errorString") : u = 423 :=
  typeName_ptr_named (nm := "errors.errorString") (by rw [star]; kernel_rfl) (by kernel_rfl) (by decide) u (by rw [star]; exact h)
theorem both_of_laid {W : World} (h : laidMetH Tryz.prog [("math/bits.deBruijn32tab", Rows.laid_math_bits_deBruijn32tab), ("math/bits.deBruijn64tab", Rows.laid_math_bits_deBruijn64tab), ("internal/strconv.uint64pow10", Rows.laid_internal_strconv_uint64pow10), ("strconv.ErrRange", Rows.laid_strconv_ErrRange), ("strconv.ErrSyntax", Rows.laid_strconv_ErrSyntax), ("sawyer/key.errNotMade", Rows.laid_sawyer_key_errNotMade)] W) : Tab W ∧ ∃ b, ErrIs W b := by
  have h' : laidMet Tryz.prog [("math/bits.deBruijn32tab", Rows.laid_math_bits_deBruijn32tab), ("math/bits.deBruijn64tab", Rows.laid_math_bits_deBruijn64tab), ("internal/strconv.uint64pow10", Lib.tabData .u64 Lib.pow10Tab), ("strconv.ErrRange", Rows.laid_strconv_ErrRange), ("strconv.ErrSyntax", Rows.laid_strconv_ErrSyntax), ("sawyer/key.errNotMade", .iface "*errors.errorString" (.ptr (.agg [.lit (.string [110, 111, 32, 107, 101, 121, 32, 105, 115, 32, 109, 97, 100, 101, 32, 115, 111])])))] W := h
  refine ⟨Lib.tabIs_of_head gP gPT Tryz.underlying437 Tryz.underlying227 cellsU cellsP h'.tail.tail, ?_⟩
  obtain ⟨a, s, hv, _⟩ := laid_sentinel h'.tail.tail.tail.tail.tail gE gEType Tryz.underlying178 rowErr Tryz.underlying423 Tryz.underlying425 rfl rfl Tryz.underlying9 cellsErr cells9
  exact ⟨a, by unfold ErrIs; simpa using World.var?_cell gE hv 0⟩
theorem size_of_tab {W : World} (h : Tab W) : 0 < W.heap.size := by
  unfold Tab Lib.TabIs at h
  simp only [World.var?, gP, Option.bind_some] at h
  cases hx : W.heap[7]? with
  | none => rw [hx] at h; cases h
  | some o => have := (Array.getElem?_eq_some_iff.1 hx).1; omega
/-- The world w, but that the six variables hold what their initialisers lay. -/
def laidIn (w : World) : World :=
  { w with heap := (((((w.heap.modify 5 fun
      | .cells _ t frozen => .cells #[.int .u8 0, .int .u8 1, .int .u8 28, .int .u8 2, .int .u8 29, .int .u8 14, .int .u8 24, .int .u8 3, .int .u8 30, .int .u8 0x16, .int .u8 20, .int .u8 15, .int .u8 25, .int .u8 17, .int .u8 4, .int .u8 8, .int .u8 31, .int .u8 27, .int .u8 13, .int .u8 23, .int .u8 21, .int .u8 19, .int .u8 16, .int .u8 7, .int .u8 26, .int .u8 12, .int .u8 18, .int .u8 6, .int .u8 11, .int .u8 5, .int .u8 10, .int .u8 9] t frozen
      | o => o).modify 8 fun
      | .cells _ t frozen => .cells #[.int .u8 0, .int .u8 1, .int .u8 56, .int .u8 2, .int .u8 57, .int .u8 49, .int .u8 28, .int .u8 3, .int .u8 61, .int .u8 58, .int .u8 42, .int .u8 50, .int .u8 38, .int .u8 29, .int .u8 17, .int .u8 4, .int .u8 62, .int .u8 47, .int .u8 59, .int .u8 36, .int .u8 45, .int .u8 43, .int .u8 51, .int .u8 0x16, .int .u8 53, .int .u8 39, .int .u8 33, .int .u8 30, .int .u8 24, .int .u8 18, .int .u8 12, .int .u8 5, .int .u8 63, .int .u8 55, .int .u8 48, .int .u8 27, .int .u8 60, .int .u8 41, .int .u8 37, .int .u8 16, .int .u8 46, .int .u8 35, .int .u8 44, .int .u8 21, .int .u8 52, .int .u8 32, .int .u8 23, .int .u8 11, .int .u8 54, .int .u8 26, .int .u8 40, .int .u8 15, .int .u8 34, .int .u8 20, .int .u8 31, .int .u8 10, .int .u8 25, .int .u8 14, .int .u8 19, .int .u8 9, .int .u8 13, .int .u8 8, .int .u8 7, .int .u8 6] t frozen
      | o => o).modify 7 fun
      | .cells _ t frozen => .cells #[.int .u64 1, .int .u64 10, .int .u64 100, .int .u64 1000, .int .u64 10000, .int .u64 100000, .int .u64 1000000, .int .u64 10000000, .int .u64 100000000, .int .u64 1000000000, .int .u64 10000000000, .int .u64 100000000000, .int .u64 1000000000000, .int .u64 10000000000000, .int .u64 100000000000000, .int .u64 1000000000000000, .int .u64 10000000000000000, .int .u64 100000000000000000, .int .u64 1000000000000000000, .int .u64 10000000000000000000] t frozen
      | o => o).modify 4 fun
      | .cells _ t frozen => .cells #[.iface 423 (.pointer (some ⟨w.heap.size - 3, 0, none⟩))] t frozen
      | o => o).modify 3 fun
      | .cells _ t frozen => .cells #[.iface 423 (.pointer (some ⟨w.heap.size - 2, 0, none⟩))] t frozen
      | o => o).modify 1 fun
      | .cells _ t frozen => .cells #[.iface 423 (.pointer (some ⟨w.heap.size - 1, 0, none⟩))] t frozen
      | o => o }
theorem laid_met (os : Os) (args : Array Value) : laidMet Tryz.prog [("math/bits.deBruijn32tab", Rows.laid_math_bits_deBruijn32tab), ("math/bits.deBruijn64tab", Rows.laid_math_bits_deBruijn64tab), ("internal/strconv.uint64pow10", Rows.laid_internal_strconv_uint64pow10), ("strconv.ErrRange", Rows.laid_strconv_ErrRange), ("strconv.ErrSyntax", Rows.laid_strconv_ErrSyntax), ("sawyer/key.errNotMade", Rows.laid_sawyer_key_errNotMade)] ((laidIn (World.holding Tryz.prog os ⟨#[.cells #[.string ⟨#[118, 97, 108, 117, 101, 32, 111, 117, 116, 32, 111, 102, 32, 114, 97, 110, 103, 101]⟩] 425, .cells #[.string ⟨#[105, 110, 118, 97, 108, 105, 100, 32, 115, 121, 110, 116, 97, 120]⟩] 425, .cells #[.string ⟨#[110, 111, 32, 107, 101, 121, 32, 105, 115, 32, 109, 97, 100, 101, 32, 115, 111]⟩] 425], #[], []⟩)).forCall (fun _ _ => 0) ⟨#[], args, []⟩).memory :=
  laidMet_of_run' 8 (by kernel_rfl) (by kernel_rfl)
end Go.Proofs.YtogphpejdnhnjaaGreatDoor
namespace Go.Proofs.YtogphpejdnhnjaaGreatDoor
open Go.RowKit

theorem all_of_laid {W : World} (h : laidMetH Tryz.prog [("math/bits.deBruijn32tab", Rows.laid_math_bits_deBruijn32tab), ("math/bits.deBruijn64tab", Rows.laid_math_bits_deBruijn64tab), ("internal/strconv.uint64pow10", Rows.laid_internal_strconv_uint64pow10), ("strconv.ErrRange", Rows.laid_strconv_ErrRange), ("strconv.ErrSyntax", Rows.laid_strconv_ErrSyntax), ("sawyer/sha.first", Rows.laid_sawyer_sha_first), ("sawyer/sha.table", Rows.laid_sawyer_sha_table), ("sawyer/key.errNotMade", Rows.laid_sawyer_key_errNotMade)] W) : Tab W ∧ (∃ b, ErrIs W b) ∧ Sha.Tab W ∧ Sha.Fst W := by
  have h' : laidMet Tryz.prog [("math/bits.deBruijn32tab", Rows.laid_math_bits_deBruijn32tab), ("math/bits.deBruijn64tab", Rows.laid_math_bits_deBruijn64tab), ("internal/strconv.uint64pow10", Lib.tabData .u64 Lib.pow10Tab), ("strconv.ErrRange", Rows.laid_strconv_ErrRange), ("strconv.ErrSyntax", Rows.laid_strconv_ErrSyntax), ("sawyer/sha.first", Lib.tabData .u32 Sha.f8), ("sawyer/sha.table", Lib.tabData .u32 Sha.k64), ("sawyer/key.errNotMade", .iface "*errors.errorString" (.ptr (.agg [.lit (.string [110, 111, 32, 107, 101, 121, 32, 105, 115, 32, 109, 97, 100, 101, 32, 115, 111])])))] W := h
  have t1 := Lib.tabIs_of_head Sha.gFst Sha.gFstT Tryz.underlying155 Tryz.underlying153 Sha.cells29 Sha.cells31 h'.tail.tail.tail.tail.tail
  have t2 := Lib.tabIs_of_head Sha.gTab Sha.gTabT Tryz.underlying283 Tryz.underlying153 Sha.cells29 Sha.cells45 h'.tail.tail.tail.tail.tail.tail
  refine ⟨Lib.tabIs_of_head gP gPT Tryz.underlying437 Tryz.underlying227 cellsU cellsP h'.tail.tail, ?_, fun i hi => ?_, fun i hi => ?_⟩
  · obtain ⟨a, s, hv, _⟩ := laid_sentinel h'.tail.tail.tail.tail.tail.tail.tail gE gEType Tryz.underlying178 rowErr Tryz.underlying423 Tryz.underlying425 rfl rfl Tryz.underlying9 cellsErr cells9
    exact ⟨a, by unfold ErrIs; simpa using World.var?_cell gE hv 0⟩
  · have := t2.cell Sha.gTab i hi
    rw [this, Sha.k64_is]
    unfold Sha.kk
    have hl : i < Sha.kt.length := hi
    simp [List.getD, hl]
  · have := t1.cell Sha.gFst i hi
    rw [this, Sha.f8_is]
    have hl : i < Sha.st0.list.length := hi
    simp [List.getD, hl]
theorem laid_met8 (os : Os) (args : Array Value) : laidMet Tryz.prog [("math/bits.deBruijn32tab", Rows.laid_math_bits_deBruijn32tab), ("math/bits.deBruijn64tab", Rows.laid_math_bits_deBruijn64tab), ("internal/strconv.uint64pow10", Rows.laid_internal_strconv_uint64pow10), ("strconv.ErrRange", Rows.laid_strconv_ErrRange), ("strconv.ErrSyntax", Rows.laid_strconv_ErrSyntax), ("sawyer/sha.first", Rows.laid_sawyer_sha_first), ("sawyer/sha.table", Rows.laid_sawyer_sha_table), ("sawyer/key.errNotMade", Rows.laid_sawyer_key_errNotMade)] ((Sha.laidIn (laidIn (World.holding Tryz.prog os ⟨#[.cells #[.string ⟨#[118, 97, 108, 117, 101, 32, 111, 117, 116, 32, 111, 102, 32, 114, 97, 110, 103, 101]⟩] 425, .cells #[.string ⟨#[105, 110, 118, 97, 108, 105, 100, 32, 115, 121, 110, 116, 97, 120]⟩] 425, .cells #[.string ⟨#[110, 111, 32, 107, 101, 121, 32, 105, 115, 32, 109, 97, 100, 101, 32, 115, 111]⟩] 425], #[], []⟩))).forCall (fun _ _ => 0) ⟨#[], args, []⟩).memory :=
  laidMet_of_run' 8 (by kernel_rfl) (by kernel_rfl)
end Go.Proofs.YtogphpejdnhnjaaGreatDoor
