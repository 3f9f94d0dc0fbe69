/- The walk of skip's first. -/
import Derived.Test.YtjiphmeoofeepaaSf
namespace Go.Proofs.Ytjiphmeoofeepaa
open Go.RowKit
open Sk (Ent)

theorem twelve {c : Array Value} (h : c.size = 12) : ∃ a0 a1 a2 a3 a4 a5 a6 a7 a8 a9 a10 a11, c = #[a0, a1, a2, a3, a4, a5, a6, a7, a8, a9, a10, a11] := by
  obtain ⟨l⟩ := c
  match l, h with
  | [a0, a1, a2, a3, a4, a5, a6, a7, a8, a9, a10, a11], _ => exact ⟨a0, a1, a2, a3, a4, a5, a6, a7, a8, a9, a10, a11, rfl⟩
/-- Every node is at least 1 high. -/
def Tall (ns : List Nd) : Prop := ∀ n ∈ ns, 0 < n.h
theorem last_all {ns : List Nd} (ht : Tall ns) : ∀ {k : Nat}, k ≤ ns.length → lastAt ns 0 k = k ∧ high ns 0 k
  | 0, _ => ⟨rfl, trivial⟩
  | k + 1, h => by
    obtain ⟨n, hn⟩ : ∃ n, ns[k]? = some n := ⟨ns[k]'(by omega), List.getElem?_eq_getElem _⟩
    have hp := ht n (List.mem_of_getElem? hn)
    exact ⟨by simp only [lastAt, hn]; rw [if_pos hp], n, hn, hp⟩
/-- The node at place k, if there is one. -/
def nodeAt (ns : List Nd) (k : Nat) : Value := match ns[k]? with | some n => .pointer (some ⟨n.g, 0, none⟩) | none => .pointer none
theorem nxt_all {ns : List Nd} (ht : Tall ns) (k : Nat) : nxt (ns.drop k) 0 = nodeAt ns k := by
  unfold nodeAt
  cases h : ns[k]? with
  | none =>
    have : ns.drop k = [] := List.drop_eq_nil_of_le (List.getElem?_eq_none_iff.1 h)
    rw [this]
    rfl
  | some n =>
    obtain ⟨hl, he⟩ := List.getElem?_eq_some_iff.1 h
    rw [List.drop_eq_getElem_cons hl, he]
    simp only [nxt]
    rw [if_pos (ht n (List.mem_of_getElem? h))]
theorem index0 (g : Nat) (a1 a2 a3 a4 a5 a6 a7 a8 a9 a10 a11 : Value) (w : World) : (Instr.index 47 (.agg #[.pointer (some ⟨g, 0, none⟩), a1, a2, a3, a4, a5, a6, a7, a8, a9, a10, a11]) (.int .i64 0)).run Try.prog w = .ok (.pointer (some ⟨g, 0, none⟩)) w := by
  simp [Instr.index, run_underlying Try.underlying47, asIntOf, go_sem]
set_option maxHeartbeats 1000000 in
set_option maxRecDepth 100000 in
theorem first_two (p1 p2 b : Nat) (ns : List Nd) (P : Ent → Bool) (k : Nat) (w : World) (hC : Chain w b ns) (ht : Tall ns) (hk : Sk.Cut P (ns.map (·.x.e)) k)
    (hF : ∀ w' x, Below w.heap.size w w' → entKind.held w' x → Calls Try.prog 28 #[ev x, .pointer (some ⟨p1, 0, none⟩), .pointer (some ⟨p2, 0, none⟩)] w' fun e w'' => e = .returned (.bool (P x.e)) ∧ Below w'.heap.size w' w'') :
    Calls Try.prog 25 #[.pointer (some ⟨b, 0, none⟩), .func (.func 28) #[] #[.pointer (some ⟨p1, 0, none⟩), .pointer (some ⟨p2, 0, none⟩)]] w fun e w' => e = .returned (nodeAt ns k) ∧ Below w.heap.size w w' := by
  have SK := keep (seek_two p1 p2 b ns P k w hC hk hF)
  have HC := keep hC
  have hkl : k ≤ ns.length := by have := hk.1; simpa using this
  obtain ⟨hla, hhi⟩ := last_all ht hkl
  have HHI := keep hhi
  have HLA := keep hla
  have HNA := keep (nxt_all ht k)
  clear hC hk hF hla hhi ht
  go_enter Try.func25, Try.ntmps25
  go_wp2_with fail
  refine SK.out.mono ?_
  rintro e w1 ⟨c, rfl, hc1, hc2, hb1⟩
  have h0 := hc2 0 (by decide)
  rw [HLA.out] at h0
  obtain ⟨a0, a1, a2, a3, a4, a5, a6, a7, a8, a9, a10, a11, rfl⟩ := twelve hc1
  have e0 : a0 = ptr (blk b ns k) := by simpa using h0
  subst e0
  have cn := (HC.out.below hb1).at_ HHI.out (by decide)
  rw [HNA.out] at cn
  have B1 := keep hb1
  obtain ⟨B, hB⟩ : ∃ B, blk b ns k = B := ⟨_, rfl⟩
  unfold ptr
  rw [hB] at cn ⊢
  have cn' : w1.cell? ⟨B, 4, none⟩ = some (nodeAt ns k) := cn
  obtain ⟨V, hV⟩ : ∃ V, nodeAt ns k = V := ⟨_, rfl⟩
  rw [hV] at cn'
  have HV := keep hV
  clear hc1 hc2 h0 hb1 SK hB cn hV
  have ix := index0 B a1 a2 a3 a4 a5 a6 a7 a8 a9 a10 a11 w1
  go_wp2
  go_ret
  exact ⟨by rw [HV.out]; rfl, B1.out⟩
end Go.Proofs.Ytjiphmeoofeepaa
