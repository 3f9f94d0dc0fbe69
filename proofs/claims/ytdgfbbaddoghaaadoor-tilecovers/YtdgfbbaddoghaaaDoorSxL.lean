/- What the rows' list of variables gives: the first state and the table; a world that holds them; no walk. -/
import Derived.Test.YtdgfbbaddoghaaaDoorSxY
import Derived.Deep.DeepHandedRow
import Derived.Lib.LaidTab
import Derived.Stop.LaidErr
namespace Go.Proofs.YtdgfbbaddoghaaaDoor.Sha
open Go.RowKit

def f8 : List Int := [1779033703, 3144134277, 1013904242, 2773480762, 1359893119, 2600822924, 528734635, 1541459225]
def k64 : List Int := [1116352408, 1899447441, 3049323471, 3921009573, 961987163, 1508970993, 2453635748, 2870763221, 3624381080, 310598401, 607225278, 1426881987, 1925078388, 2162078206, 2614888103, 3248222580, 3835390401, 4022224774, 264347078, 604807628, 770255983, 1249150122, 1555081692, 1996064986, 2554220882, 2821834349, 2952996808, 3210313671, 3336571891, 3584528711, 113926993, 338241895, 666307205, 773529912, 1294757372, 1396182291, 1695183700, 1986661051, 2177026350, 2456956037, 2730485921, 2820302411, 3259730800, 3345764771, 3516065817, 3600352804, 4094571909, 275423344, 430227734, 506948616, 659060556, 883997877, 958139571, 1322822218, 1537002063, 1747873779, 1955562222, 2024104815, 2227730452, 2361852424, 2428436474, 2756734187, 3204031479, 3329325298]
theorem gFst : Tryd.prog.globalNamed "sawyer/sha.first" = some 0 := by kernel_rfl
theorem gTab : Tryd.prog.globalNamed "sawyer/sha.table" = some 1 := by kernel_rfl
theorem gFstT : (Tryd.prog.globals[0]?).map (·.type) = some 77 := by kernel_rfl
theorem gTabT : (Tryd.prog.globals[1]?).map (·.type) = some 91 := by kernel_rfl
theorem cells31 : Tryd.prog.cellsOf 77 = 8 := by kernel_rfl
theorem cells45 : Tryd.prog.cellsOf 91 = 64 := by kernel_rfl
theorem cells29 : Tryd.prog.cellsOf 75 = 1 := by kernel_rfl
theorem f8_is : f8 = st0.list.map U := by decide +kernel
theorem k64_is : k64 = kt.map U := by decide +kernel
theorem laid_both {W : World} (h' : laidMet Tryd.prog [("sawyer/sha.first", Lib.tabData .u32 f8), ("sawyer/sha.table", Lib.tabData .u32 k64)] W) : Fst W ∧ Tab W := by
  have t1 := Lib.tabIs_of_head gFst gFstT Tryd.underlying77 Tryd.underlying75 cells29 cells31 h'
  have t2 := Lib.tabIs_of_head gTab gTabT Tryd.underlying91 Tryd.underlying75 cells29 cells45 h'.tail
  refine ⟨fun i hi => ?_, fun i hi => ?_⟩
  · have := t1.cell gFst i hi
    rw [this, f8_is]
    have hl : i < st0.list.length := hi
    simp [List.getD, hl]
  · have := t2.cell gTab i hi
    rw [this, k64_is]
    unfold kk
    have hl : i < kt.length := hi
    simp [List.getD, hl]
/-- The world w, but that the two variables hold what their initialisers lay. -/
def laidIn (w : World) : World :=
  { w with heap := (w.heap.modify 0 fun
      | .cells _ t frozen => .cells #[.int .u32 1779033703, .int .u32 3144134277, .int .u32 1013904242, .int .u32 2773480762, .int .u32 1359893119, .int .u32 2600822924, .int .u32 528734635, .int .u32 1541459225] t frozen
      | o => o).modify 1 fun
      | .cells _ t frozen => .cells #[.int .u32 1116352408, .int .u32 1899447441, .int .u32 3049323471, .int .u32 3921009573, .int .u32 961987163, .int .u32 1508970993, .int .u32 2453635748, .int .u32 2870763221, .int .u32 3624381080, .int .u32 310598401, .int .u32 607225278, .int .u32 1426881987, .int .u32 1925078388, .int .u32 2162078206, .int .u32 2614888103, .int .u32 3248222580, .int .u32 3835390401, .int .u32 4022224774, .int .u32 264347078, .int .u32 604807628, .int .u32 770255983, .int .u32 1249150122, .int .u32 1555081692, .int .u32 1996064986, .int .u32 2554220882, .int .u32 2821834349, .int .u32 2952996808, .int .u32 3210313671, .int .u32 3336571891, .int .u32 3584528711, .int .u32 113926993, .int .u32 338241895, .int .u32 666307205, .int .u32 773529912, .int .u32 1294757372, .int .u32 1396182291, .int .u32 1695183700, .int .u32 1986661051, .int .u32 2177026350, .int .u32 2456956037, .int .u32 2730485921, .int .u32 2820302411, .int .u32 3259730800, .int .u32 3345764771, .int .u32 3516065817, .int .u32 3600352804, .int .u32 4094571909, .int .u32 275423344, .int .u32 430227734, .int .u32 506948616, .int .u32 659060556, .int .u32 883997877, .int .u32 958139571, .int .u32 1322822218, .int .u32 1537002063, .int .u32 1747873779, .int .u32 1955562222, .int .u32 2024104815, .int .u32 2227730452, .int .u32 2361852424, .int .u32 2428436474, .int .u32 2756734187, .int .u32 3204031479, .int .u32 3329325298] t frozen
      | o => o }
end Go.Proofs.YtdgfbbaddoghaaaDoor.Sha
