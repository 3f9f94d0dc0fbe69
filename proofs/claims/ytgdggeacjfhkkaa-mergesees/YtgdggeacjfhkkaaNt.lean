/- The walk of the document's first. -/
import Derived.Test.YtgdggeacjfhkkaaNs
import Derived.Test.YtgdggeacjfhkkaaM5
namespace Go.Proofs.Ytgdggeacjfhkkaa
open Go.RowKit
open Sk (Ent)

set_option maxHeartbeats 2000000 in
set_option maxRecDepth 100000 in
theorem rfst_any (ao : Option Addr) (n c : Nat) (es : List EV) (s : Int) (w : World) (hs : RSrc entKind w ao n c es) (hn : n ≤ 1000000) :
    Calls Try.prog 32 #[.slice ao n c, .int .i64 s] w fun e w' => e = .returned (.int .i64 (Mg.fstI s (es.map (·.e)))) ∧ w' = w := by
  have SRC := keep hs
  have HL := keep hs.len
  clear hs
  go_enter Try.func32, Try.ntmps32
  go_wp2
  go_loopw [5] (fun i wr => ∃ k : Nat, k ≤ n ∧ i = .int .i64 (k : Int) ∧ Hid (wr = w ∧ ∀ j y, j < k → es[j]? = some y → ¬ y.e.seq ≤ s)) (fun i _ => n - (intOf i).toNat)
  case atStart => exact ⟨0, Nat.zero_le _, rfl, rfl, fun j y hj => by omega⟩
  case round =>
    obtain ⟨k, hk, rfl, hI⟩ := hrel
    obtain rfl := hI.out.1
    by_cases hkn : k < n
    · obtain ⟨b, off, rfl, _, _⟩ := SRC.out.form entKind_ok (by omega)
      obtain ⟨y, hy⟩ : ∃ y, es[k]? = some y := ⟨es[k]'(by rw [HL.out]; exact hkn), List.getElem?_eq_getElem _⟩
      obtain ⟨p0, p1, p2, p3⟩ := ent_cells SRC.out hy
      have HY := keep hy
      clear hy
      obtain ⟨ykp, ykc, yvp, yvc, ⟨ykey, yseq, ygone, yval⟩⟩ := y
      simp only at p0 p1 p2 p3
      have ll : (k : Int) < (n : Int) := by omega
      have l0 : (0 : Int) ≤ (k : Int) := by omega
      by_cases hq : yseq ≤ s
      · have FE : Hid (Mg.fstI s (es.map (·.e)) = (k : Int)) := by
          show _ = _
          unfold Mg.fstI
          rw [Mg.fst_at s (es.map (·.e)) k ⟨ykey, yseq, ygone, yval⟩ (by rw [List.getElem?_map, HY.out]; rfl) hq (fun j x hj hx => by
            rw [List.getElem?_map] at hx
            cases hz : es[j]? with
            | none => rw [hz] at hx; cases hx
            | some z => rw [hz] at hx; cases hx; exact hI.out.2 j z hj hz)]
        go_wp2
        go_ret
        exact ⟨by rw [FE.out]; rfl, rfl⟩
      · go_wp2
        go_roundw
        case rel =>
          have NX : ∀ j y, j < k + 1 → es[j]? = some y → ¬ y.e.seq ≤ s := fun j y hj h => by
            rcases Nat.lt_or_ge j k with hlt | hge
            · exact hI.out.2 j y hlt h
            · obtain rfl : j = k := by omega
              rw [HY.out] at h
              cases h
              exact hq
          exact ⟨k + 1, by omega, by go_num, by first | exact ⟨rfl, NX⟩ | exact ⟨trivial, NX⟩⟩
        case measure => simp [intOf]; omega
    · obtain rfl : k = n := by omega
      have FE : Hid (Mg.fstI s (es.map (·.e)) = -1) := by
        show _ = _
        unfold Mg.fstI
        rw [Mg.fst_end s (es.map (·.e)) (fun j x hx => by
          rw [List.getElem?_map] at hx
          cases hz : es[j]? with
          | none => rw [hz] at hx; cases hx
          | some z =>
            rw [hz] at hx
            cases hx
            have := (List.getElem?_eq_some_iff.1 hz).1
            rw [HL.out] at this
            exact hI.out.2 j z this hz)]
      go_wp2
      go_ret
      exact ⟨by rw [FE.out]; rfl, rfl⟩
end Go.Proofs.Ytgdggeacjfhkkaa
