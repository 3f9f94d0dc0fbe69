/- The walks of the document's SameMetas and Same: true where they are the same. -/
/- What a save leaves on a disk with power and no cut ahead; more behind it, a crash; no walk. -/
/- The walk of the document's Same: true where the versions are the same; what Clean leaves, over plain disks. -/
import Derived.Test.YthnebhddakfadaaGreatDoorJoinFm
import Derived.Test.YthnebhddakfadaaGreatDoorJoinFo
import Derived.Test.YthnebhddakfadaaGreatDoorJoinFg
import Derived.Test.YthnebhddakfadaaGreatDoorJoinOi
import Derived.Test.YthnebhddakfadaaGreatDoorJoinFzd
namespace Go.Proofs.YthnebhddakfadaaGreatDoor
open Go.RowKit
open Ed (Nt)

end Go.Proofs.YthnebhddakfadaaGreatDoor
namespace Go.Proofs.YthnebhddakfadaaGreatDoor
open Go.RowKit
open Dk (File Disk)
open Ed (Ver)

/-- A disk with power, and no cut ahead. -/
def Lit (d : Disk) : Prop := d.dark = false ∧ d.left = none
theorem Lit.write {d : Disk} (h : Lit d) (l : List File) : (Dk.write d l).1 = 0 ∧ Lit (Dk.write d l).2 := by
  obtain ⟨c, fs, dn, lf, dk⟩ := d
  obtain ⟨h1, h2⟩ := h
  simp only at h1 h2
  subst h1 h2
  exact ⟨rfl, rfl, rfl⟩
theorem Lit.raw {d : Disk} (h : Lit d) (k : Nat) (a b t : List UInt8) : Lit (Dk.raw d k a b t).2 := by
  rcases Dk.raw_cases d k a b t with ⟨e, _, hx⟩ | ⟨m, _, hx⟩
  · rw [hx]; exact h
  · rw [hx]; exact (h.write m).2
theorem Lit.remove {d : Disk} (h : Lit d) (g : Dk.Good d) {n : List UInt8} (hn : (Dk.look d.files n).isSome = true) : (Dk.raw d 3 n [] []).1 = 0 := by
  obtain ⟨f, hf⟩ := Option.isSome_iff_exists.1 hn
  have hna : Dk.named n = true := by
    have := g.names f (Dk.look_some hf).1
    rwa [(Dk.look_some hf).2] at this
  have hp : Dk.plan d.cap d.files d.dark 3 n [] [] = .inr (Dk.drop d.files n) := by
    show Dk.guard d.dark (Dk.named n) (Dk.planRemove d.files n) = _
    unfold Dk.guard Dk.planRemove
    rw [hna, h.1, hf]
    rfl
  unfold Dk.raw
  rw [hp]
  exact (h.write _).1
theorem rising_nodup : ∀ {l : List File}, Dk.Rising l → (l.map (·.name)).Nodup
  | [], _ => List.nodup_nil
  | f :: t, h => by
    rw [List.map_cons, List.nodup_cons]
    refine ⟨fun hm => ?_, rising_nodup h.2⟩
    obtain ⟨g, hg, e⟩ := List.mem_map.1 hm
    have h1 := h.1 g hg
    rw [e, less_irrefl] at h1
    cases h1
theorem Lit.rmv (p : List UInt8 → Bool) : ∀ (ns : List (List UInt8)) {d : Disk}, Lit d → Dk.Good d → ns.Nodup → (∀ n ∈ ns, (Dk.look d.files n).isSome = true) → (Go.Proofs.YthnebhddakfadaaGreatDoor.rmv p d ns).1 = 0 ∧ Lit (Go.Proofs.YthnebhddakfadaaGreatDoor.rmv p d ns).2
  | [], d, h, _, _, _ => ⟨rfl, h⟩
  | n :: t, d, h, g, hnd, hn => by
    rw [List.nodup_cons] at hnd
    simp only [Go.Proofs.YthnebhddakfadaaGreatDoor.rmv]
    split
    · have h0 := h.remove g (hn n List.mem_cons_self)
      rw [if_pos h0]
      refine Lit.rmv p t (h.raw 3 n [] []) (Dk.raw_good 3 n [] [] g) hnd.2 (fun m hm => ?_)
      rw [(raw_far g 3 n [] []).look m (fun e => e.elim (fun e => hnd.1 (e ▸ hm)) (fun e => by cases e.1))]
      exact hn m (List.mem_cons_of_mem _ hm)
    · exact Lit.rmv p t h g hnd.2 (fun m hm => hn m (List.mem_cons_of_mem _ hm))
theorem Lit.rmvAll (p : List UInt8 → Bool) {d : Disk} (h : Lit d) (g : Dk.Good d) : (Go.Proofs.YthnebhddakfadaaGreatDoor.rmvAll p d).1 = 0 ∧ Lit (Go.Proofs.YthnebhddakfadaaGreatDoor.rmvAll p d).2 :=
  h.rmv p _ g (rising_nodup g.rising) (fun n hn => by
    obtain ⟨f, hf, rfl⟩ := List.mem_map.1 hn
    rw [Dk.look_mem g.rising hf]
    rfl)
theorem Lit.adds (N : List UInt8) : ∀ (ts : List (List UInt8)) {d : Disk}, Lit d → Lit (Go.Proofs.YthnebhddakfadaaGreatDoor.adds d N ts).2
  | [], _, h => h
  | t :: ts, d, h => by
    simp only [Go.Proofs.YthnebhddakfadaaGreatDoor.adds]
    split
    · exact Lit.adds N ts (h.raw 0 N [] t)
    · exact h.raw 0 N [] t
theorem Lit.walGo (N fr : List UInt8) {d : Disk} (h : Lit d) : Lit (Go.Proofs.YthnebhddakfadaaGreatDoor.walGo d N fr).2 := by
  unfold Go.Proofs.YthnebhddakfadaaGreatDoor.walGo
  split
  · exact (h.adds N _).raw 1 N [] []
  · exact h.adds N _
theorem Lit.wrt : ∀ (fs : List (List UInt8 × List UInt8)) {d : Disk}, Lit d → Lit (Go.Proofs.YthnebhddakfadaaGreatDoor.wrt d fs).2
  | [], _, h => h
  | f :: t, d, h => by
    simp only [Go.Proofs.YthnebhddakfadaaGreatDoor.wrt]
    split
    · exact Lit.wrt t (h.walGo f.1 f.2)
    · exact h.walGo f.1 f.2
/-- More behind "cur~". -/
theorem Sure.more {d : Disk} {v : Ver} (g : Dk.Good d) (h : Sure d v) (x t : List UInt8) : Sure (Dk.raw d 0 tmpN x t).2 v :=
  h.far (raw_far g 0 tmpN x t) (fun e => e.elim cur_tmp (fun e => by cases e.1)) (fun _ e => e.elim (manN_tmp _) (fun e => by cases e.1))
end Go.Proofs.YthnebhddakfadaaGreatDoor
namespace Go.Proofs.YthnebhddakfadaaGreatDoor
open Go.RowKit
open Ed (Nt)
open Dk (File Disk)

theorem tail_bad {fo l : List UInt8} (h : inF fo l = true) : l = fo ++ digs (numOf l) := by
  unfold inF at h
  simp only [Bool.and_eq_true, decide_eq_true_eq] at h
  exact h.2.symm
theorem wal_tmp : inF walF tmpN = false := by
  cases h : inF walF tmpN with
  | false => rfl
  | true => have := congrArg List.head? (tail_bad h); simp [walF, tmpN] at this
theorem tab_called (n : Int) : calledL tabF n = [] ∨ (calledL tabF n).head? = some 116 := by
  unfold calledL
  split
  · exact .inr rfl
  · exact .inl rfl
theorem called_mem {V : Ed.Ver} {x : List UInt8} (h : x ∈ namesL V) : x = calledL [109, 97, 110, 47] V.gen ∨ x = [] ∨ x.head? = some 116 := by
  unfold namesL at h
  rcases List.mem_cons.1 (List.mem_mergeSort.1 h) with h | h
  · exact .inl h
  · unfold tabsL at h
    obtain ⟨m, _, rfl⟩ := List.mem_map.1 h
    exact .inr (tab_called m.num)
theorem Sure.same {d D : Disk} {v : Ed.Ver} (h : Sure d v) (hf : D.files = d.files) : Sure D v := by
  unfold Sure at h ⊢
  rw [hf]
  exact h
end Go.Proofs.YthnebhddakfadaaGreatDoor
