/- The walk of the document's Size. -/
import Derived.Test.YtlhblbaingojaaaXd
namespace Go.Proofs.Ytlhblbaingojaaa
open Go.RowKit
open Sk (Ent)

theorem size_le {l : List Ent} (h : ∀ e ∈ l, e.key.length ≤ 64 ∧ e.val.length ≤ 1024) : Sk.size l ≤ l.length * 1096 := by
  induction l with
  | nil => simp [Sk.size]
  | cons a l ih =>
    have h1 := h a (List.mem_cons_self ..)
    have h2 := ih (fun e he => h e (List.mem_cons_of_mem _ he))
    simp only [Sk.size, List.length_cons]
    omega
theorem size_more {l : List Ent} {k : Nat} {e : Ent} (h : l[k]? = some e) : Sk.size (l.take (k + 1)) = Sk.size (l.take k) + (e.key.length + e.val.length + 8) := by
  rw [List.take_add_one, h, Sk.size_append]
  simp [Sk.size]
theorem RMem.small {B : Nat} {w : World} {r : Nat} {ys : List EV} {hs : List Int} (h : RMem B w r ys hs) : ∀ y ∈ ys, y.e.key.length ≤ 64 ∧ y.e.val.length ≤ 1024 := fun y hy => by
  have := h.may y hy
  unfold Sk.may at this
  simp at this
  omega
set_option maxHeartbeats 2000000 in
set_option maxRecDepth 100000 in
theorem rsize_any (B r : Nat) (ys : List EV) (hs : List Int) (w : World) (hM : RMem B w r ys hs) (hln : ys.length ≤ 1000000) :
    Calls Try.prog 16 #[.pointer (some ⟨r, 0, none⟩)] w fun e w' => e = .returned (.int .i64 ((Sk.size (ys.map (·.e)) : Nat) : Int)) ∧ Below w.heap.size w w' := by
  have MAY : Hid (∀ y ∈ ys, y.e.key.length ≤ 64 ∧ y.e.val.length ≤ 1024) := hM.small
  obtain ⟨ao, c, vH, hrow, hsrc, _, _⟩ := hM.src
  have SRC := keep hsrc
  have L0 : Hid (w.cell? ⟨r, 0, none⟩ = some (.slice ao ys.length c)) := cell_of_row _ _ _ _ _ _ hrow
  have SZ : Hid (∀ k, Sk.size ((ys.map (·.e)).take k) ≤ 1096000000) := fun k => by
    refine Nat.le_trans (size_le (fun e he => ?_)) ?_
    · obtain ⟨y, hy, rfl⟩ := List.mem_map.1 (List.mem_of_mem_take he)
      exact MAY.out y hy
    · rw [List.length_take, List.length_map]; omega
  have hfull : (ys.map (·.e)).take ys.length = ys.map (·.e) := List.take_of_length_le (by simp)
  have FULL := keep hfull
  clear hM hrow hsrc hfull
  obtain ⟨N, hN⟩ : ∃ N, ys.length = N := ⟨_, rfl⟩
  have HN := keep hN
  rw [hN] at SRC L0 hln FULL
  clear hN
  go_enter Try.func16, Try.ntmps16
  go_wp2
  go_loopw [3, 4] (fun n i wr => ∃ k : Nat, k ≤ N ∧ n = .int .i64 ((Sk.size ((ys.map (·.e)).take k) : Nat) : Int) ∧ i = .int .i64 (k : Int) ∧ Hid (Below w.heap.size w wr)) (fun _ i _ => N - (intOf i).toNat)
  case atStart => exact ⟨0, Nat.zero_le _, by simp [Sk.size], rfl, Below.refl _ _⟩
  case round =>
    obtain ⟨k, hk, rfl, rfl, hB⟩ := hrel
    have l0 := below_cell hB.out L0.out
    by_cases hkn : k < N
    · obtain ⟨b, off, rfl, _, _⟩ := SRC.out.form entKind_ok (by omega)
      obtain ⟨y, hy⟩ : ∃ y, ys[k]? = some y := ⟨ys[k]'(by rw [HN.out]; exact hkn), List.getElem?_eq_getElem _⟩
      obtain ⟨p0, p1, p2, p3⟩ := ent_cells (SRC.out.below entKind_ok hB.out) hy
      have hym := MAY.out y (List.mem_of_getElem? hy)
      have MORE := keep (size_more (l := ys.map (·.e)) (k := k) (e := y.e) (by rw [List.getElem?_map, hy]; rfl))
      have hsz := SZ.out k
      obtain ⟨ykp, ykc, yvp, yvc, ⟨ykey, yseq, ygone, yval⟩⟩ := y
      simp only at p0 p1 p2 p3 hym MORE
      obtain ⟨z, hz⟩ : ∃ z, Sk.size ((ys.map (·.e)).take k) = z := ⟨_, rfl⟩
      rw [hz] at MORE hsz ⊢
      obtain ⟨yk, hyk⟩ : ∃ yk, ykey.length = yk := ⟨_, rfl⟩
      obtain ⟨yl, hyl⟩ : ∃ yl, yval.length = yl := ⟨_, rfl⟩
      rw [hyk] at p0 hym MORE
      rw [hyl] at p3 hym MORE
      clear hy hz hyk hyl
      have i0 : (0 : Int) ≤ (k : Int) := by omega
      have ll : (k : Int) < (N : Int) := by omega
      go_wp2_with fail
      go_quiet (fail)
      go_wp2
      go_roundw
      case rel => exact ⟨k + 1, by omega, by rw [MORE.out]; go_num, by go_num, hB.out.trans ((below_drewN (Below.refl _ _) _).mono hB.out.size)⟩
      case measure => simp [intOf]; omega
    · obtain rfl : k = N := by omega
      have ll : ¬ (k : Int) < (k : Int) := by omega
      go_wp2
      go_ret
      exact ⟨by rw [FULL.out]; rfl, hB.out⟩
end Go.Proofs.Ytlhblbaingojaaa
