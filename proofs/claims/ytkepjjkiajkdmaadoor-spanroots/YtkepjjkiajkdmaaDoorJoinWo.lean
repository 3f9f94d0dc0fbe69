/- A slice of bytes among the arguments, opened: what it holds, its length within the form's reach or the bound; no walk. -/
/- What the rows' list of variables gives: the first state and the table; a world that holds them; no walk. -/
/- The arguments of stage 15's statements opened: texts, rows of texts, rows of byte slices; what the rows lay; no walk. -/
/- A span among the arguments opened; no walk. -/
import Derived.Test.YtkepjjkiajkdmaaDoorK
import Derived.OpenShut
import Derived.ShutString
import Derived.SizedLaws
import Derived.Carry
import Derived.JoinedCond
import Derived.Test.YtkepjjkiajkdmaaDoorSxY
import Derived.Deep.DeepHandedRow
import Derived.Lib.LaidTab
import Derived.Stop.LaidErr
import Derived.Test.YtkepjjkiajkdmaaDoorCards
import Derived.Test.YtkepjjkiajkdmaaDoorTie
import Derived.Test.YtkepjjkiajkdmaaDoorPa
import Derived.Stop.JoinedAt
import Derived.LaidLaws
import Derived.SliceStrings
import Derived.ChangeMaps5
import Derived.Deep.Strs
namespace Go.Proofs.YtkepjjkiajkdmaaDoor
open Go.ChangeShapes Go.WideShapes Go.ChangeAt Go.RowKit

theorem laidOut : laidOutB Tryd.prog = true := by kernel_rfl
theorem cells5 : Tryd.prog.cellsOf 5 = 1 := by kernel_rfl
theorem bytes5 : Tryd.prog.bytesOf 5 = 1 := by kernel_rfl
def bl (zs : List Int) : List UInt8 := zs.map fun n => UInt8.ofNat n.toNat
theorem bl_at (zs : List Int) (i : Nat) (hi : i < zs.length) (hw : ∀ n ∈ zs, (Lit.int .u8 n).wf = true) : ((fn (bl zs) i).toNat : Int) = zs.getD i 0 := by
  have hz : zs.getD i 0 = zs[i] := by simp [List.getD, hi]
  have hb := hw zs[i] (List.getElem_mem hi)
  have hx : 0 ≤ zs[i] ∧ zs[i] ≤ 255 := by simpa [Lit.wf, IntKind.min, IntKind.max, IntKind.signed, IntKind.bits] using hb
  have e : fn (bl zs) i = UInt8.ofNat (zs[i]).toNat := by simp [fn, bl, List.getD, hi]
  rw [e, hz, UInt8.toNat_ofNat']
  omega
set_option maxRecDepth 100000 in
theorem open_bytes {H : Type} {enc : TypeId × Value → H} {W : World} {v : Value} {d : DataW H} {p : List MemPlace} {base : Nat} (hv : Value.okWide Tryd.prog W .any base 41 v) (h : DataW.Trod enc Tryd.prog W 0 (fun _ => true) true 41 v d p) :
    ∃ ao m c l, v = .slice ao m c ∧ Src W ao m c l ∧ c ≤ maxLen ∧ (d = .nil ∧ m = 0 ∨ ∃ elems spare, d = .slice elems spare ∧ elems.length + spare.length = c) := by
  obtain ⟨a0, len0, cap0, rfl⟩ := okWide_slice Tryd.underlying41 hv
  obtain ⟨fuel, hf⟩ := h
  rcases open_ints Tryd.underlying41 Tryd.underlying5 cells5 (by simpa [Value.cells] using hf) with ⟨hcs, hx⟩ | ⟨a, len, cap, zs, hcs, _, hl, hm, hz, hx, hcell, hwz⟩
  · simp at hcs
    obtain ⟨rfl, rfl, rfl⟩ := hcs
    refine ⟨none, 0, 0, [], rfl, Src.empty (fun _ => rfl), Nat.zero_le _, .inl ⟨?_, rfl⟩⟩
    cases hx; rfl
  · simp at hcs
    obtain ⟨rfl, rfl, rfl⟩ := hcs
    simp at hz
    refine ⟨some a, len0, cap0, bl (zs.take len0), rfl, ?_, hm, .inr ⟨_, _, by cases hx; rfl, ?_⟩⟩
    · refine ⟨by simp [bl]; omega, hl, (fun h => by cases h), fun ad had j u hu => ?_⟩
      cases had
      have hj : j < (bl (zs.take len0)).length := by
        have := (List.getElem?_eq_some_iff.1 hu).1
        rwa [bv_length] at this
      have hj2 : j < (zs.take len0).length := by simpa [bl] using hj
      rw [bv_at _ j hj] at hu
      cases hu
      rw [bl_at (zs.take len0) j hj2 (fun n hn => hwz n (List.mem_of_mem_take hn)), hcell j (by simp at hj2; omega)]
      congr 2
      have h1 : j < len0 := by simp at hj2; omega
      have h2 : j < zs.length := by simp at hj2; omega
      rw [List.getD_eq_getElem?_getD, List.getD_eq_getElem?_getD, List.getElem?_take, if_pos h1]
    · simp [lits]
      omega
theorem reach_bytes {H : Type} {ts : List TypeId} {ds : List (DataW H)} (h : (DataW.weightsEach Tryd.prog ts ds).all (· ≤ reachBytes) = true) {j : Nat} {d : DataW H} {m c : Nat} (ht : ts[j]? = some 41) (hd : ds[j]? = some d) (hmc : m ≤ c)
    (hs : d = .nil ∧ m = 0 ∨ ∃ elems spare, d = .slice elems spare ∧ elems.length + spare.length = c) : m ≤ 140737488351232 := by
  rcases hs with ⟨_, h0⟩ | ⟨elems, spare, rfl, hc⟩
  · omega
  · have := sized_slice h ht hd Tryd.underlying41
    rw [bytes5] at this
    unfold reachBytes at this
    omega
theorem i64_lt {n : Int} (h : (Lit.int .i64 n).wf = true) : -9223372036854775808 ≤ n ∧ n < 9223372036854775808 := by
  have h2 : -9223372036854775808 ≤ n ∧ n ≤ 9223372036854775807 := by simpa [Lit.wf, IntKind.min, IntKind.max, IntKind.signed, IntKind.bits] using h
  omega
theorem bulk_one {H : Type} (d : DataW H) : 1 ≤ Rows.uptoBulk d := by
  cases d with
  | lit l => cases l <;> simp [Rows.uptoBulk]
  | nil => simp [Rows.uptoBulk]
  | ptr d => simp [Rows.uptoBulk]
  | slice elems spare => simp [Rows.uptoBulk]
  | agg parts => simp [Rows.uptoBulk]
  | iface t d => simp [Rows.uptoBulk]
  | map entries => simp [Rows.uptoBulk]
  | held h => simp [Rows.uptoBulk]
theorem bulk_length {H : Type} (l : List (DataW H)) : l.length ≤ Rows.uptoBulkAll l := by
  induction l with
  | nil => simp [Rows.uptoBulkAll]
  | cons x r ih => have := bulk_one x; simp only [Rows.uptoBulkAll, List.length_cons]; omega
theorem bulk_bytes {H : Type} {d : DataW H} {m c : Nat} (hmc : m ≤ c) (hs : d = .nil ∧ m = 0 ∨ ∃ elems spare, d = .slice elems spare ∧ elems.length + spare.length = c) : m ≤ Rows.uptoBulk d := by
  rcases hs with ⟨_, h0⟩ | ⟨elems, spare, rfl, hc⟩
  · omega
  · have h1 := bulk_length elems
    have h2 := bulk_length spare
    simp only [Rows.uptoBulk]
    omega
theorem bulk_string {H : Type} (s : ByteArray) : s.size ≤ Rows.uptoBulk (DataW.lit (H := H) (.string s.data.toList)) := by
  have e : s.data.toList.length = s.size := by rw [Array.length_toList]; rfl
  simp only [Rows.uptoBulk]
  omega
theorem reach_string {H : Type} {ts : List TypeId} {ds : List (DataW H)} (h : (DataW.weightsEach Tryd.prog ts ds).all (· ≤ reachBytes) = true) {j : Nat} {s : ByteArray} (ht : ts[j]? = some 9) (hd : ds[j]? = some (.lit (.string s.data.toList))) : s.size ≤ 140737488351232 := by
  have := sized_string h ht hd
  have e : s.data.toList.length = s.size := by rw [Array.length_toList]; rfl
  unfold reachBytes at this
  omega
end Go.Proofs.YtkepjjkiajkdmaaDoor
namespace Go.Proofs.YtkepjjkiajkdmaaDoor.Sha
open Go.RowKit

def f8 : List Int := [1779033703, 3144134277, 1013904242, 2773480762, 1359893119, 2600822924, 528734635, 1541459225]
def k64 : List Int := [1116352408, 1899447441, 3049323471, 3921009573, 961987163, 1508970993, 2453635748, 2870763221, 3624381080, 310598401, 607225278, 1426881987, 1925078388, 2162078206, 2614888103, 3248222580, 3835390401, 4022224774, 264347078, 604807628, 770255983, 1249150122, 1555081692, 1996064986, 2554220882, 2821834349, 2952996808, 3210313671, 3336571891, 3584528711, 113926993, 338241895, 666307205, 773529912, 1294757372, 1396182291, 1695183700, 1986661051, 2177026350, 2456956037, 2730485921, 2820302411, 3259730800, 3345764771, 3516065817, 3600352804, 4094571909, 275423344, 430227734, 506948616, 659060556, 883997877, 958139571, 1322822218, 1537002063, 1747873779, 1955562222, 2024104815, 2227730452, 2361852424, 2428436474, 2756734187, 3204031479, 3329325298]
theorem gFst : Tryd.prog.globalNamed "sawyer/sha.first" = some 0 := by kernel_rfl
theorem gTab : Tryd.prog.globalNamed "sawyer/sha.table" = some 1 := by kernel_rfl
theorem gFstT : (Tryd.prog.globals[0]?).map (·.type) = some 91 := by kernel_rfl
theorem gTabT : (Tryd.prog.globals[1]?).map (·.type) = some 100 := by kernel_rfl
theorem cells31 : Tryd.prog.cellsOf 91 = 8 := by kernel_rfl
theorem cells45 : Tryd.prog.cellsOf 100 = 64 := by kernel_rfl
theorem cells29 : Tryd.prog.cellsOf 80 = 1 := by kernel_rfl
theorem f8_is : f8 = st0.list.map U := by decide +kernel
theorem k64_is : k64 = kt.map U := by decide +kernel
theorem laid_both {W : World} (h' : laidMet Tryd.prog [("sawyer/sha.first", Lib.tabData .u32 f8), ("sawyer/sha.table", Lib.tabData .u32 k64)] W) : Fst W ∧ Tab W := by
  have t1 := Lib.tabIs_of_head gFst gFstT Tryd.underlying91 Tryd.underlying80 cells29 cells31 h'
  have t2 := Lib.tabIs_of_head gTab gTabT Tryd.underlying100 Tryd.underlying80 cells29 cells45 h'.tail
  refine ⟨fun i hi => ?_, fun i hi => ?_⟩
  · have := t1.cell gFst i hi
    rw [this, f8_is]
    have hl : i < st0.list.length := hi
    simp [List.getD, hl]
  · have := t2.cell gTab i hi
    rw [this, k64_is]
    unfold kk
    have hl : i < kt.length := hi
    simp [List.getD, hl]
/-- The world w, but that the two variables hold what their initialisers lay. -/
def laidIn (w : World) : World :=
  { w with heap := (w.heap.modify 0 fun
      | .cells _ t frozen => .cells #[.int .u32 1779033703, .int .u32 3144134277, .int .u32 1013904242, .int .u32 2773480762, .int .u32 1359893119, .int .u32 2600822924, .int .u32 528734635, .int .u32 1541459225] t frozen
      | o => o).modify 1 fun
      | .cells _ t frozen => .cells #[.int .u32 1116352408, .int .u32 1899447441, .int .u32 3049323471, .int .u32 3921009573, .int .u32 961987163, .int .u32 1508970993, .int .u32 2453635748, .int .u32 2870763221, .int .u32 3624381080, .int .u32 310598401, .int .u32 607225278, .int .u32 1426881987, .int .u32 1925078388, .int .u32 2162078206, .int .u32 2614888103, .int .u32 3248222580, .int .u32 3835390401, .int .u32 4022224774, .int .u32 264347078, .int .u32 604807628, .int .u32 770255983, .int .u32 1249150122, .int .u32 1555081692, .int .u32 1996064986, .int .u32 2554220882, .int .u32 2821834349, .int .u32 2952996808, .int .u32 3210313671, .int .u32 3336571891, .int .u32 3584528711, .int .u32 113926993, .int .u32 338241895, .int .u32 666307205, .int .u32 773529912, .int .u32 1294757372, .int .u32 1396182291, .int .u32 1695183700, .int .u32 1986661051, .int .u32 2177026350, .int .u32 2456956037, .int .u32 2730485921, .int .u32 2820302411, .int .u32 3259730800, .int .u32 3345764771, .int .u32 3516065817, .int .u32 3600352804, .int .u32 4094571909, .int .u32 275423344, .int .u32 430227734, .int .u32 506948616, .int .u32 659060556, .int .u32 883997877, .int .u32 958139571, .int .u32 1322822218, .int .u32 1537002063, .int .u32 1747873779, .int .u32 1955562222, .int .u32 2024104815, .int .u32 2227730452, .int .u32 2361852424, .int .u32 2428436474, .int .u32 2756734187, .int .u32 3204031479, .int .u32 3329325298] t frozen
      | o => o }
end Go.Proofs.YtkepjjkiajkdmaaDoor.Sha
namespace Go.Proofs.YtkepjjkiajkdmaaDoor
open Go.ChangeShapes Go.WideShapes Go.ChangeAt Go.RowKit Go.Deep

theorem open_bytes_dat {H : Type} {enc : TypeId × Value → H} {W : World} {n : Nat} {v : Value} {x : DataW H × List MemPlace} (h : DataW.trod enc Tryd.prog W 0 (fun _ => true) true n 41 [v] = some x) :
    ∃ ao m c l, v = .slice ao m c ∧ Src W ao m c l ∧ (x.1 = .nil ∧ m = 0 ∨ ∃ elems spare, x.1 = .slice elems spare ∧ elems.length + spare.length = c) := by
  rcases open_ints Tryd.underlying41 Tryd.underlying5 cells5 h with ⟨hcs, hx⟩ | ⟨a, len, cap, zs, hcs, _, hl, hm, hz, hx, hcell, hwz⟩
  · simp only [List.cons.injEq, and_true] at hcs
    exact ⟨none, 0, 0, [], hcs, Src.empty (fun _ => rfl), .inl ⟨by rw [hx], rfl⟩⟩
  · simp only [List.cons.injEq, and_true] at hcs
    simp at hz
    refine ⟨some a, len, cap, bl (zs.take len), hcs, ?_, .inr ⟨_, _, by rw [hx], ?_⟩⟩
    · refine ⟨by simp [bl]; omega, hl, (fun h => by cases h), fun ad had j u hu => ?_⟩
      cases had
      have hj : j < (bl (zs.take len)).length := by
        have := (List.getElem?_eq_some_iff.1 hu).1
        rwa [bv_length] at this
      have hj2 : j < (zs.take len).length := by simpa [bl] using hj
      rw [bv_at _ j hj] at hu
      cases hu
      rw [bl_at (zs.take len) j hj2 (fun n hn => hwz n (List.mem_of_mem_take hn)), hcell j (by simp at hj2; omega)]
      congr 2
      have h1 : j < len := by simp at hj2; omega
      rw [List.getD_eq_getElem?_getD, List.getD_eq_getElem?_getD, List.getElem?_take, if_pos h1]
    · simp [lits]
      omega
theorem weights_all {H : Type} {P : Program} {e : TypeId} : ∀ {ds : List (DataW H)} {i : Nat} {d : DataW H}, ds[i]? = some d → ∀ n ∈ d.weights P e, n ∈ DataW.weightsAll P e ds
  | d0 :: ds, 0, d, hd, n, hn => by
    simp only [List.getElem?_cons_zero, Option.some.injEq] at hd
    subst hd
    simp only [DataW.weightsAll, List.mem_append]
    exact .inl hn
  | d0 :: ds, i + 1, d, hd, n, hn => by
    simp only [List.getElem?_cons_succ] at hd
    simp only [DataW.weightsAll, List.mem_append]
    exact .inr (weights_all hd n hn)
  | [], _, _, hd, _, _ => by simp at hd
theorem bytes22 : Tryd.prog.bytesOf 41 = 24 := by kernel_rfl
set_option maxRecDepth 100000 in
/-- A slice of byte slices among the arguments. -/
theorem open_keys {H : Type} {enc : TypeId × Value → H} {W : World} {v : Value} {d : DataW H} {p : List MemPlace} {base : Nat} {ts : List TypeId} {ds : List (DataW H)} {j : Nat} (hsz : (DataW.weightsEach Tryd.prog ts ds).all (· ≤ reachBytes) = true) (ht : ts[j]? = some 49) (hd : ds[j]? = some d)
    (hv : Value.okWide Tryd.prog W .any base 49 v) (h : DataW.Trod enc Tryd.prog W 0 (fun _ => true) true 49 v d p) :
    ∃ ao m c es, v = .slice ao m c ∧ RSrc byteKind W ao m c es ∧ m ≤ 5864062014634 ∧ ∀ e ∈ es, e.bytes.length ≤ 140737488351232 := by
  obtain ⟨a0, len0, cap0, rfl⟩ := okWide_slice Tryd.underlying49 hv
  obtain ⟨fuel, hf⟩ := h
  obtain ⟨ao, m, c, es, h1, h2, h3, h4⟩ := open_recs (enc := enc) (W := W) byteKind_ok (Q := fun e y => y = .nil ∧ e.bytes.length = 0 ∨ ∃ elems spare, y = .slice elems spare ∧ elems.length + spare.length = e.cap) Tryd.underlying49 (by kernel_rfl) (fun m cs y hy => by
    obtain ⟨v0, rfl⟩ : ∃ v0, cs = [v0] := by
      rcases open_slice Tryd.underlying41 hy with ⟨hcs, _⟩ | ⟨_, _, _, _, _, _, _, hcs, _⟩
      · exact ⟨_, hcs⟩
      · exact ⟨_, hcs⟩
    obtain ⟨ao, m, c, l, q1, q2, q3⟩ := open_bytes_dat hy
    refine ⟨⟨ao, c, l⟩, ?_, ?_, ?_⟩
    · rw [q1]; simp only [byteKind]; rw [q2.len]
    · show Src W ao l.length c l
      rw [q2.len]; exact q2
    · rcases q3 with ⟨q3, q4⟩ | q3
      · exact .inl ⟨q3, by show l.length = 0; rw [q2.len, q4]⟩
      · exact .inr q3) (v := .slice a0 len0 cap0) (by simpa only [Value.cells] using hf)
  have hcap := h2.cap
  rcases h4 with ⟨h0, _⟩ | ⟨xs, sp, hx, hl, hcl, hq⟩
  · refine ⟨ao, m, c, es, h1, h2, by omega, fun e he => ?_⟩
    have := h2.len
    rw [h0] at this
    rw [List.length_eq_zero_iff.1 this] at he
    cases he
  · have hx' : d = .slice xs sp := hx
    have hw := sized_slice hsz ht (hx' ▸ hd) Tryd.underlying49
    rw [bytes22, hcl] at hw
    unfold reachBytes at hw
    refine ⟨ao, m, c, es, h1, h2, by omega, fun e he => ?_⟩
    obtain ⟨i, hi⟩ := List.getElem?_of_mem he
    have hlt := (List.getElem?_eq_some_iff.1 hi).1
    rw [h2.len, ← hl] at hlt
    have hd2 := List.getElem?_eq_getElem hlt
    have hs2 : Src W e.ptr e.bytes.length e.cap e.bytes := h2.held e he
    have hec := hs2.cap
    rcases hq i e _ hi hd2 with ⟨_, h0⟩ | ⟨el, sp2, h5, h6⟩
    · omega
    · have h7 : (el.length + sp2.length) * Tryd.prog.bytesOf 5 ∈ DataW.weights Tryd.prog 49 (DataW.slice xs sp) := by
        simp only [DataW.weights, Tryd.underlying49, List.mem_cons, List.mem_append]
        right; left
        refine weights_all hd2 _ ?_
        rw [h5]
        simp [DataW.weights, Tryd.underlying41]
      have h8 := List.all_eq_true.1 hsz _ (DataW.weights_mem_each ht (hx' ▸ hd) _ h7)
      simp only [decide_eq_true_eq] at h8
      rw [bytes5, h6] at h8
      unfold reachBytes at h8
      omega
theorem bytes9 : Tryd.prog.bytesOf 9 = 16 := by kernel_rfl
theorem own15 : ownKnob Tryd.prog.godebug = none := by kernel_rfl
theorem bulk_in {H : Type} : ∀ {ds : List (DataW H)} {x : DataW H}, x ∈ ds → Rows.uptoBulk x ≤ Rows.uptoBulkAll ds
  | d :: ds, x, h => by
    simp only [Rows.uptoBulkAll]
    rcases List.mem_cons.1 h with rfl | h
    · omega
    · have := bulk_in h
      omega
set_option maxRecDepth 100000 in
/-- A row of texts among the arguments. -/
theorem open_texts {H : Type} {enc : TypeId × Value → H} {W : World} {v : Value} {d : DataW H} {p : List MemPlace} {base : Nat} {ts : List TypeId} {ds : List (DataW H)} {j : Nat} (hsz : (DataW.weightsEach Tryd.prog ts ds).all (· ≤ reachBytes) = true) (ht : ts[j]? = some 22) (hd : ds[j]? = some d)
    (hv : Value.okWide Tryd.prog W .any base 22 v) (h : DataW.Trod enc Tryd.prog W 0 (fun _ => true) true 22 v d p) :
    ∃ ao m c es, v = .slice ao m c ∧ RSrc strKind W ao m c es ∧ m ≤ 8796093021952 ∧ (∀ e ∈ es, e.length + 1 ≤ Rows.uptoBulk d) ∧ m ≤ Rows.uptoBulk d := by
  obtain ⟨a0, len0, cap0, rfl⟩ := okWide_slice Tryd.underlying22 hv
  obtain ⟨fuel, hf⟩ := h
  obtain ⟨ao, m, c, es, h1, h2, h3, h4⟩ := open_recs (enc := enc) (W := W) strKind_ok (Q := fun e y => y = .lit (.string e)) Tryd.underlying22 (by kernel_rfl) (fun m cs y hy => by
    obtain ⟨s, rfl, rfl, _⟩ := DataW.trod_string Tryd.underlying9 hy
    exact ⟨s.data.toList, by cases s; simp [strKind], trivial, rfl⟩) (v := .slice a0 len0 cap0) (by simpa only [Value.cells] using hf)
  have hcap := h2.cap
  rcases h4 with ⟨h0, hn⟩ | ⟨xs, sp, hx, hl, hcl, hq⟩
  · refine ⟨ao, m, c, es, h1, h2, by omega, fun e he => ?_, by omega⟩
    have := h2.len
    rw [h0] at this
    rw [List.length_eq_zero_iff.1 this] at he
    cases he
  · have hx' : d = .slice xs sp := hx
    have hw := sized_slice hsz ht (hx' ▸ hd) Tryd.underlying22
    rw [bytes9, hcl] at hw
    unfold reachBytes at hw
    have hbl : Rows.uptoBulkAll xs + 1 ≤ Rows.uptoBulk d := by rw [hx']; simp only [Rows.uptoBulk]; omega
    refine ⟨ao, m, c, es, h1, h2, by omega, fun e he => ?_, ?_⟩
    · obtain ⟨i, hi⟩ := List.getElem?_of_mem he
      have hlt := (List.getElem?_eq_some_iff.1 hi).1
      rw [h2.len, ← hl] at hlt
      have hd2 := List.getElem?_eq_getElem hlt
      have h5 := hq i e _ hi hd2
      have h6 := bulk_in (List.mem_of_getElem? hd2)
      rw [h5] at h6
      have h7 : Rows.uptoBulk (DataW.lit (H := H) (.string e)) = e.length + 1 := by simp only [Rows.uptoBulk]
      omega
    · have := bulk_length xs
      omega
theorem laid_ld {W : World} (h' : laidMet Tryd.prog [("sawyer/sha.first", Lib.tabData .u32 Sha.f8), ("sawyer/sha.table", Lib.tabData .u32 Sha.k64)] W) : Ld W := ⟨(Sha.laid_both h').2, (Sha.laid_both h').1⟩
theorem text_of (s : ByteArray) : ∃ t : List UInt8, s = ⟨t.toArray⟩ := ⟨s.data.toList, by cases s; simp⟩
end Go.Proofs.YtkepjjkiajkdmaaDoor
namespace Go.Proofs.YtkepjjkiajkdmaaDoor
open Go.ChangeShapes Go.WideShapes Go.ChangeAt Go.RowKit Go.Deep

theorem agg_of_cells {v : Value} {l : List Value} (h : v.cells.toList = l) (hl : l.length ≠ 1) : v = .agg l.toArray := by
  cases v with
  | agg cs => simp only [Value.cells] at h; subst h; rfl
  | _ => simp only [Value.cells] at h; subst h; exact absurd rfl hl
theorem trod_struct2 {H : Type} {enc : TypeId × Value → H} {P : Program} {w : World} {base : Nat} {spare : Nat → Bool} {held : Bool} {t : TypeId} {f0 f1 : Field} {fuel : Nat} {cs : List Value} {x : DataW H × List MemPlace} (ht : P.underlying t = some (.struct #[f0, f1])) (h : DataW.trod enc P w base spare held fuel t cs = some x) :
    ∃ y0 y1 n, cs.length = P.cellsOf t ∧ x.1 = .agg [y0.1, y1.1] ∧ DataW.trod enc P w base spare held n f0.type ((cs.drop f0.offset).take (P.cellsOf f0.type)) = some y0 ∧
      DataW.trod enc P w base spare held n f1.type ((cs.drop f1.offset).take (P.cellsOf f1.type)) = some y1 := by
  obtain ⟨xs, n, _, rfl, hl, hlen, hf⟩ := DataW.trod_struct ht h
  match xs, hlen with
  | [y0, y1], _ => exact ⟨y0, y1, n, hl, rfl, by simpa using hf 0 f0 rfl, by simpa using hf 1 f1 rfl⟩
theorem span_fields : ∃ f0 f1 : Field, Tryd.prog.underlying 24 = some (.struct #[f0, f1]) ∧ (f0.type = 3 ∧ f0.offset = 0) ∧ (f1.type = 22 ∧ f1.offset = 1) := ⟨_, _, Tryd.underlying24, ⟨rfl, rfl⟩, ⟨rfl, rfl⟩⟩
theorem cI16 : Tryd.prog.cellsOf 3 = 1 := by kernel_rfl
theorem cS16 : Tryd.prog.cellsOf 22 = 1 := by kernel_rfl
theorem cN16 : Tryd.prog.cellsOf 24 = 2 := by kernel_rfl
set_option maxRecDepth 100000 in
theorem weights_span {H : Type} {d0 d1 : DataW H} {n : Nat} (h : n ∈ d1.weights Tryd.prog 22) : n ∈ DataW.weights Tryd.prog 24 (.agg [d0, d1]) := by
  obtain ⟨f0, f1, hF, ⟨e0, _⟩, ⟨e1, _⟩⟩ := span_fields
  simp only [DataW.weights, hF, DataW.weightsEach, List.map_cons, List.map_nil, e0, e1, List.mem_append]
  exact .inr (.inl h)
set_option maxRecDepth 100000 in
/-- A span among the arguments. -/
theorem open_span {H : Type} {enc : TypeId × Value → H} {W : World} {v : Value} {d : DataW H} {p : List MemPlace} {ts : List TypeId} {ds : List (DataW H)} {j : Nat} (hsz : (DataW.weightsEach Tryd.prog ts ds).all (· ≤ reachBytes) = true) (ht : ts[j]? = some 24) (hd : ds[j]? = some d)
    (h : DataW.Trod enc Tryd.prog W 0 (fun _ => true) true 24 v d p) :
    ∃ n ao m c es, v = .agg #[.int .i64 n, .slice ao m c] ∧ RSrc strKind W ao m c es ∧ m ≤ 8796093021952 := by
  obtain ⟨fuel, hf⟩ := h
  obtain ⟨f0, f1, hF, ⟨e0, o0⟩, ⟨e1, o1⟩⟩ := span_fields
  obtain ⟨y0, y1, k, hl, hx, t0, t1⟩ := trod_struct2 hF hf
  rw [cN16] at hl
  obtain ⟨cs, hcs⟩ : ∃ cs, v.cells.toList = cs := ⟨_, rfl⟩
  rw [hcs] at hl t0 t1
  match cs, hl with
  | [v0, v1], _ =>
    rw [e0, o0, cI16] at t0
    rw [e1, o1, cS16] at t1
    simp at t0 t1
    obtain ⟨z0, hz0, _, _⟩ := DataW.trod_int Tryd.underlying3 t0
    simp only [List.cons.injEq, and_true] at hz0
    obtain ⟨ao, m, c, es, h1, h2, h3, h4⟩ := open_recs (enc := enc) (W := W) strKind_ok (Q := fun e y => y = .lit (.string e)) Tryd.underlying22 (by kernel_rfl) (fun m cs y hy => by
      obtain ⟨s, rfl, rfl, _⟩ := DataW.trod_string Tryd.underlying9 hy
      exact ⟨s.data.toList, by cases s; simp [strKind], trivial, rfl⟩) t1
    have hv : v = .agg #[.int .i64 z0, .slice ao m c] := by
      have := agg_of_cells hcs (by simp)
      rw [this, hz0, h1]
    have hcap := h2.cap
    refine ⟨z0, ao, m, c, es, hv, h2, ?_⟩
    rcases h4 with ⟨h0, _⟩ | ⟨xs, sp, hx1, hl1, hcl, _⟩
    · omega
    · have hd' : d = .agg [y0.1, y1.1] := hx
      have h8 := List.all_eq_true.1 hsz _ (DataW.weights_mem_each ht (hd' ▸ hd) ((xs.length + sp.length) * Tryd.prog.bytesOf 9) (weights_span (by rw [hx1]; simp [DataW.weights, Tryd.underlying22])))
      simp only [decide_eq_true_eq] at h8
      rw [bytes9, hcl] at h8
      unfold reachBytes at h8
      omega
end Go.Proofs.YtkepjjkiajkdmaaDoor
