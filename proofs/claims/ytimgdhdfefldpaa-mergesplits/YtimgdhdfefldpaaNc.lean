/- Merge of what makes nothing new. -/
import Derived.Test.YtimgdhdfefldpaaNa
namespace Go.Proofs.Ytimgdhdfefldpaa
open Go.RowKit
open Sk (Ent)

theorem again_any (p : Option Addr) (N c : Nat) (ls : List LV) (ys : List EV) (M : Nat) (w : World) (hs : RSrc listKind w p N c ls) (hN : N ≤ 1000000) (hyc : ∀ y ∈ ls, y.c ≤ maxLen) (htot : ((ls.map (·.es)).flatten).length ≤ 1000000) (hsm : ∀ l ∈ ls, ∀ y ∈ l.es, y.e.key.length ≤ 140737488355328 ∧ y.e.val.length ≤ 140737488355328)
    (hup : Sk.Up (ys.map (·.e))) (hM : ys.length = M) (hf : ∀ e, ((lents ls).flatten).find? (Mg.alike e) = (ys.map (·.e)).find? (Mg.alike e)) :
    Calls Try.prog 11 #[.slice p N c] w fun e w' => ∃ za zc zs, e = .returned (.slice za M zc) ∧ RSrc entKind w' za M zc zs ∧ zs.map (·.e) = ys.map (·.e) ∧ Below w.heap.size w w' := by
  refine (merge_any p N c ls w hs hN hyc htot hsm).mono ?_
  rintro e w' ⟨v, zs, rfl, hE, hV, _, hb⟩
  have h1 : zs.map (·.e) = ys.map (·.e) := (hV.congr hf).uniq (Mg.Mrg.self hup)
  have h2 : zs.length = M := by
    have := congrArg List.length h1
    rw [List.length_map, List.length_map] at this
    omega
  obtain ⟨za, zc, rfl, hz, _⟩ := hE.src
  rw [h2] at hz ⊢
  exact ⟨za, zc, zs, rfl, hz, h1, hb⟩
end Go.Proofs.Ytimgdhdfefldpaa
