/- A slice of bytes among the arguments, opened: what it holds, its length within the form's reach; no walk. -/
import Derived.Test.YtjjpfckmbjgfbaaDoorL
import Derived.Test.YtjjpfckmbjgfbaaDoorS
import Derived.OpenShut
import Derived.SizedLaws
import Derived.Carry
namespace Go.Proofs.YtjjpfckmbjgfbaaDoor
open Go.ChangeShapes Go.WideShapes Go.ChangeAt Go.RowKit

theorem cells5 : Tryd.prog.cellsOf 5 = 1 := by kernel_rfl
theorem bytes5 : Tryd.prog.bytesOf 5 = 1 := by kernel_rfl
def bl (zs : List Int) : List UInt8 := zs.map fun n => UInt8.ofNat n.toNat
theorem bl_at (zs : List Int) (i : Nat) (hi : i < zs.length) (hw : ∀ n ∈ zs, (Lit.int .u8 n).wf = true) : ((fn (bl zs) i).toNat : Int) = zs.getD i 0 := by
  have hz : zs.getD i 0 = zs[i] := by simp [List.getD, hi]
  have hb := hw zs[i] (List.getElem_mem hi)
  have hx : 0 ≤ zs[i] ∧ zs[i] ≤ 255 := by simpa [Lit.wf, IntKind.min, IntKind.max, IntKind.signed, IntKind.bits] using hb
  have e : fn (bl zs) i = UInt8.ofNat (zs[i]).toNat := by simp [fn, bl, List.getD, hi]
  rw [e, hz, UInt8.toNat_ofNat']
  omega
theorem open_bytes {H : Type} {enc : TypeId × Value → H} {W : World} {v : Value} {d : DataW H} {p : List MemPlace} {base : Nat} (hv : Value.okWide Tryd.prog W .any base 22 v) (h : DataW.Trod enc Tryd.prog W 0 (fun _ => true) true 22 v d p) :
    ∃ ao m c l, v = .slice ao m c ∧ Src W ao m c l ∧ c ≤ maxLen ∧ (d = .nil ∧ m = 0 ∨ ∃ elems spare, d = .slice elems spare ∧ elems.length + spare.length = c) := by
  obtain ⟨a0, len0, cap0, rfl⟩ := okWide_slice Tryd.underlying22 hv
  obtain ⟨fuel, hf⟩ := h
  rcases open_ints Tryd.underlying22 Tryd.underlying5 cells5 (by simpa [Value.cells] using hf) with ⟨hcs, hx⟩ | ⟨a, len, cap, zs, hcs, _, hl, hm, hz, hx, hcell, hwz⟩
  · simp at hcs
    obtain ⟨rfl, rfl, rfl⟩ := hcs
    refine ⟨none, 0, 0, [], rfl, Src.empty (fun _ => rfl), Nat.zero_le _, .inl ⟨?_, rfl⟩⟩
    cases hx; rfl
  · simp at hcs
    obtain ⟨rfl, rfl, rfl⟩ := hcs
    simp at hz
    refine ⟨some a, len0, cap0, bl (zs.take len0), rfl, ?_, hm, .inr ⟨_, _, by cases hx; rfl, ?_⟩⟩
    · refine ⟨by simp [bl]; omega, hl, (fun h => by cases h), fun ad had j u hu => ?_⟩
      cases had
      have hj : j < (bl (zs.take len0)).length := by
        have := (List.getElem?_eq_some_iff.1 hu).1
        rwa [bv_length] at this
      have hj2 : j < (zs.take len0).length := by simpa [bl] using hj
      rw [bv_at _ j hj] at hu
      cases hu
      rw [bl_at (zs.take len0) j hj2 (fun n hn => hwz n (List.mem_of_mem_take hn)), hcell j (by simp at hj2; omega)]
      congr 2
      have h1 : j < len0 := by simp at hj2; omega
      have h2 : j < zs.length := by simp at hj2; omega
      rw [List.getD_eq_getElem?_getD, List.getD_eq_getElem?_getD, List.getElem?_take, if_pos h1]
    · simp [lits]
      omega
theorem reach_bytes {H : Type} {ts : List TypeId} {ds : List (DataW H)} (h : (DataW.weightsEach Tryd.prog ts ds).all (· ≤ reachBytes) = true) {j : Nat} {d : DataW H} {m c : Nat} (ht : ts[j]? = some 22) (hd : ds[j]? = some d) (hmc : m ≤ c)
    (hs : d = .nil ∧ m = 0 ∨ ∃ elems spare, d = .slice elems spare ∧ elems.length + spare.length = c) : m ≤ 140737488351232 := by
  rcases hs with ⟨_, h0⟩ | ⟨elems, spare, rfl, hc⟩
  · omega
  · have := sized_slice h ht hd Tryd.underlying22
    rw [bytes5] at this
    unfold reachBytes at this
    omega
end Go.Proofs.YtjjpfckmbjgfbaaDoor
