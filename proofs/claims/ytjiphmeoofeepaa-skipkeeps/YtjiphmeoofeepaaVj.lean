/- The walk of the document's Same, where it says yes. -/
import Derived.Test.YtjiphmeoofeepaaRb
import Derived.Test.YtjiphmeoofeepaaVb
namespace Go.Proofs.Ytjiphmeoofeepaa
open Go.RowKit
open Sk (Ent)

theorem ent_cells {w : World} {b off n c : Nat} {es : List EV} (h : RSrc entKind w (some ⟨b, off, none⟩) n c es) {i : Nat} {x : EV} (hx : es[i]? = some x) :
    w.cell? ⟨b, off + i * 4, none⟩ = some (.slice x.kp x.e.key.length x.kc) ∧ w.cell? ⟨b, off + i * 4 + 1, none⟩ = some (.int .i64 x.e.seq) ∧ w.cell? ⟨b, off + i * 4 + 2, none⟩ = some (.bool x.e.gone) ∧ w.cell? ⟨b, off + i * 4 + 3, none⟩ = some (.slice x.vp x.e.val.length x.vc) := by
  have one : ∀ (j : Nat) (u : Value), (entKind.vals x)[j]? = some u → w.cell? ⟨b, off + i * 4 + j, none⟩ = some u := fun j u hu => by
    have hj : j < 4 := (List.getElem?_eq_some_iff.1 hu).1
    have := h.cells _ rfl (i * entKind.size + j) u ((rv_at entKind_ok j hx hj).trans hu)
    rw [Addr.add_mid] at this
    rw [show off + i * 4 + j = off + (i * entKind.size + j) by show _ = off + (i * 4 + j); omega]
    exact this
  exact ⟨one 0 _ rfl, one 1 _ rfl, one 2 _ rfl, one 3 _ rfl⟩
set_option maxHeartbeats 2000000 in
set_option maxRecDepth 100000 in
theorem same_yes (ao : Option Addr) (m c : Nat) (es : List EV) (ao2 : Option Addr) (c2 : Nat) (es2 : List EV) (w : World) (hm : m ≤ 1000000000) (h1 : RSrc entKind w ao m c es) (h2 : RSrc entKind w ao2 m c2 es2) (he : es.map (·.e) = es2.map (·.e)) :
    Calls Try.prog 10 #[.slice ao m c, .slice ao2 m c2] w fun e w' => e = .returned (.bool true) ∧ Below w.heap.size w w' := by
  have H1 := keep h1
  have H2 := keep h2
  have HE := keep he
  have hl1 := h1.len
  have hl2 := h2.len
  clear h1 h2 he
  go_enter Try.func10, Try.ntmps10
  go_wp2
  go_loopw [5] (fun i wr => ∃ k : Nat, k ≤ m ∧ i = .int .i64 (k : Int) ∧ Hid (Below w.heap.size w wr)) (fun i _ => m - (intOf i).toNat)
  case atStart => exact ⟨0, Nat.zero_le _, rfl, Below.refl _ _⟩
  case round =>
    obtain ⟨k, hk, rfl, hB⟩ := hrel
    by_cases hlt : k < m
    · obtain ⟨b, off, rfl, _, _⟩ := H1.out.form entKind_ok (by omega)
      obtain ⟨b2, off2, rfl, _, _⟩ := H2.out.form entKind_ok (by omega)
      obtain ⟨x, hx⟩ : ∃ x, es[k]? = some x := ⟨es[k], List.getElem?_eq_getElem (by omega)⟩
      obtain ⟨y, hy⟩ : ∃ y, es2[k]? = some y := ⟨es2[k], List.getElem?_eq_getElem (by omega)⟩
      have hxy : x.e = y.e := by
        have := congrArg (fun l => l[k]?) HE.out
        simp only [List.getElem?_map, hx, hy, Option.map_some, Option.some.injEq] at this
        exact this
      obtain ⟨p0, p1, p2, p3⟩ := ent_cells (H1.out.below entKind_ok hB.out) hx
      obtain ⟨r0, r1, r2, r3⟩ := ent_cells (H2.out.below entKind_ok hB.out) hy
      have hxh := (H1.out.below entKind_ok hB.out).held x (List.mem_of_getElem? hx)
      have hyh := (H2.out.below entKind_ok hB.out).held y (List.mem_of_getElem? hy)
      have SO : Hid (∀ w', Below wr.heap.size wr w' → Calls Try.prog 24 #[ev x, ev y] w' fun e w'' => e = .returned (.bool true) ∧ Below wr.heap.size wr w'') := fun w' hb => by
        refine (sameOne_yes x y w' (entKind_ok.below hxh hb) (entKind_ok.below hyh hb) hxy).mono ?_
        rintro e w'' ⟨rfl, hb'⟩
        exact ⟨rfl, hb.trans (hb'.mono hb.size)⟩
      have ll : (k : Int) < (m : Int) := by omega
      have l0 : (0 : Int) ≤ (k : Int) := by omega
      obtain ⟨xkp, xkc, xvp, xvc, ⟨xkey, xseq, xgone, xval⟩⟩ := x
      obtain ⟨ykp, ykc, yvp, yvc, ⟨ykey, yseq, ygone, yval⟩⟩ := y
      unfold ev at SO
      simp only at SO p0 p1 p2 p3 r0 r1 r2 r3
      clear hx hy hxy hxh hyh
      go_wp2_with fail
      go_region_held3 (fun w' => w'.cell? ⟨b, off + k * 4, none⟩ = some (.slice xkp xkey.length xkc) ∧ w'.cell? ⟨b, off + k * 4 + 1, none⟩ = some (.int .i64 xseq) ∧ w'.cell? ⟨b, off + k * 4 + 2, none⟩ = some (.bool xgone) ∧ w'.cell? ⟨b, off + k * 4 + 3, none⟩ = some (.slice xvp xval.length xvc) ∧ w'.cell? ⟨b2, off2 + k * 4, none⟩ = some (.slice ykp ykey.length ykc) ∧ w'.cell? ⟨b2, off2 + k * 4 + 1, none⟩ = some (.int .i64 yseq) ∧ w'.cell? ⟨b2, off2 + k * 4 + 2, none⟩ = some (.bool ygone) ∧ w'.cell? ⟨b2, off2 + k * 4 + 3, none⟩ = some (.slice yvp yval.length yvc))
        (first | exact ⟨p0, p1, p2, p3, r0, r1, r2, r3⟩ | exact ⟨below_cell b4.out p0, below_cell b4.out p1, below_cell b4.out p2, below_cell b4.out p3, below_cell b4.out r0, below_cell b4.out r1, below_cell b4.out r2, below_cell b4.out r3⟩)
        ((go_at_call 24; refine (SO.out _ ((Below.refl _ _).drew)).mono ?_; rintro e w4 ⟨rfl, hb4⟩; have b4 := keep hb4; clear hb4))
      go_wp2
      go_roundw
      case rel => exact ⟨k + 1, by omega, by go_num, hB.out.trans (b4.out.mono hB.out.size)⟩
      case measure => simp [intOf]; omega
    · have ll : ¬ (k : Int) < (m : Int) := by omega
      go_wp2
      go_ret
      exact ⟨rfl, hB.out⟩
end Go.Proofs.Ytjiphmeoofeepaa
