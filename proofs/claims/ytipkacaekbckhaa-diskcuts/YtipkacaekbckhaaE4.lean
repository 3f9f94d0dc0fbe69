/- Disk's Rename, all its cases. -/
import Derived.Test.YtipkacaekbckhaaE3
namespace Go.Proofs.Ytipkacaekbckhaa
open Go.RowKit
open Dk (File Disk)

theorem ahead2_arg {off : Bool} {n n2 : List UInt8} (h : (Dk.named n && Dk.named n2) = false) : ahead off [n, n2] = 1 := by
  unfold ahead
  simp only [List.all_cons, List.all_nil, Bool.and_true]
  rw [h]; rfl
theorem ahead2_ok {off : Bool} {n n2 : List UInt8} (h : (Dk.named n && Dk.named n2) = true) : ahead off [n, n2] = if off then 5 else 0 := by
  unfold ahead
  simp only [List.all_cons, List.all_nil, Bool.and_true]
  rw [h]; rfl
theorem rename_raw (S : Nat → Prop) (b : Nat) (d : Disk) (n n2 : List UInt8) (w : World) (h : Mem S w b d) (ho : d.done ≤ 4611686018427387904) (y : List UInt8) :
    Calls Try.prog 26 #[.pointer (some ⟨b, 0, none⟩), .string ⟨n.toArray⟩, .string ⟨n2.toArray⟩] w fun e w' => RawPost S w b (Dk.raw d 2 n n2 y) e w' := by
  have stay : ∀ w', Below w.heap.size w w' → Mem (more S w w') w' b d ∧ Kept (Go.Proofs.Ytipkacaekbckhaa.mine S b) w w' := fun w' hb => by
    obtain ⟨m, l, left, h⟩ := h
    exact h.stay hb
  cases hna : (Dk.named n && Dk.named n2) with
  | false =>
    rw [Dk.raw_arg (by exact hna)]
    refine (rename_ahead S b d n n2 w h 1 (ahead2_arg hna) rfl).mono ?_
    rintro e w' ⟨rfl, hb⟩
    exact ⟨rfl, stay w' hb⟩
  | true =>
    have hok : Dk.okay 2 n n2 y = true := hna
    have h1 : Dk.named n = true := by cases hh : Dk.named n with | true => rfl | false => rw [hh] at hna; cases hna
    have h2 : Dk.named n2 = true := by rw [h1] at hna; exact hna
    have l1 := (named_true h1).2.1
    have l2 := (named_true h2).2.1
    cases hd : d.dark with
    | true =>
      rw [Dk.raw_dark hok hd]
      refine (rename_ahead S b d n n2 w h 5 (by rw [hd]; exact ahead2_ok hna) rfl).mono ?_
      rintro e w' ⟨rfl, hb⟩
      exact ⟨rfl, stay w' hb⟩
    | false =>
      have hz : ahead d.dark [n, n2] = 0 := by rw [hd]; exact ahead2_ok hna
      cases hx : Dk.look d.files n with
      | none =>
        rw [Dk.raw_own (e := 3) hok hd (by simp only [Dk.planOf, Dk.planRename, hx])]
        refine (rename_none S b d n n2 w h (by unfold maxLen; omega) hz hx).mono ?_
        rintro e w' ⟨rfl, hb⟩
        exact ⟨rfl, stay w' hb⟩
      | some f =>
        obtain ⟨nm, sf, fb⟩ := f
        by_cases hne : n2 = n
        · subst hne
          have hgr := h.good.room
          rw [Dk.raw_do hok hd (Dk.rename_room hx (by rw [Dk.wants_same]; omega))]
          cases ht : (Dk.tick d).1 with
          | false => rw [Dk.write_cut ht]; exact rename_same_cut S b d n2 nm sf fb w h l1 hz hd ho hx ht
          | true => rw [Dk.write_go ht]; exact rename_same_go S b d n2 nm sf fb w h l1 hz hd ho hx ht
        · cases hx2 : Dk.look d.files n2 with
          | none =>
            by_cases hf : ((d.cap : Int) - (Dk.used d.files : Int)) + (16 + (n.length : Int) + (fb.length : Int)) < (16 + (n2.length : Int) + (fb.length : Int))
            · rw [Dk.raw_own hok hd (Dk.rename_full hx (by rw [Dk.wants_new hx2]; omega))]
              refine (rename_new_full S b d n n2 nm sf fb w h l1 l2 hz hx hne hx2 hf).mono ?_
              rintro e w' ⟨rfl, hb⟩
              exact ⟨rfl, stay w' hb⟩
            · rw [Dk.raw_do hok hd (Dk.rename_room hx (by rw [Dk.wants_new hx2]; omega))]
              cases ht : (Dk.tick d).1 with
              | false => rw [Dk.write_cut ht]; exact rename_new_cut S b d n n2 nm sf fb w h l1 l2 hz hd ho hx hne hx2 hf ht
              | true => rw [Dk.write_go ht]; exact rename_new_go S b d n n2 nm sf fb w h l1 l2 hz hd ho hx hne hx2 hf ht
          | some g =>
            obtain ⟨nm2, sf2, fb2⟩ := g
            by_cases hf : ((d.cap : Int) - (Dk.used d.files : Int)) + (16 + (n.length : Int) + (fb.length : Int)) + (16 + (n2.length : Int) + (fb2.length : Int)) < (16 + (n2.length : Int) + (fb.length : Int))
            · rw [Dk.raw_own hok hd (Dk.rename_full hx (by rw [Dk.wants_over hx2 hne]; omega))]
              refine (rename_over_full S b d n n2 nm sf fb nm2 sf2 fb2 w h l1 l2 hz hx hne hx2 hf).mono ?_
              rintro e w' ⟨rfl, hb⟩
              exact ⟨rfl, stay w' hb⟩
            · rw [Dk.raw_do hok hd (Dk.rename_room hx (by rw [Dk.wants_over hx2 hne]; omega))]
              cases ht : (Dk.tick d).1 with
              | false => rw [Dk.write_cut ht]; exact rename_over_cut S b d n n2 nm sf fb nm2 sf2 fb2 w h l1 l2 hz hd ho hx hne hx2 hf ht
              | true => rw [Dk.write_go ht]; exact rename_over_go S b d n n2 nm sf fb nm2 sf2 fb2 w h l1 l2 hz hd ho hx hne hx2 hf ht
end Go.Proofs.Ytipkacaekbckhaa
