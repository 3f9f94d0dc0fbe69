/- Notes and versions over plain lists; no walk. -/
/- A note as it lies; no walk. -/
/- An operation taken first; a region's answers joined; slots set; no walk. -/
import Derived.Test.YtogphpejdnhnjaaGreatDoorJoinMp
import Derived.Test.YtogphpejdnhnjaaGreatDoorRw
import Derived.Test.YtogphpejdnhnjaaGreatDoorOw
import Derived.Deep.RegionHeld3
namespace Go.Proofs.YtogphpejdnhnjaaGreatDoor.Ed
open Go.Proofs.YtogphpejdnhnjaaGreatDoor

/-- A table's note. -/
structure Nt where
  num : Int
  level : Int
  count : Int
  first : List UInt8
  last : List UInt8
def isNum (n : Int) : Bool := decide (0 ≤ n) && decide (n ≤ 1099511627776)
def isKey (b : List UInt8) : Bool := decide (1 ≤ b.length) && decide (b.length ≤ 64)
/-- -1, 0 or 1, as the one is less, the same or greater. -/
def cmpI (a b : Int) : Int := if a < b then -1 else if b < a then 1 else 0
/-- The order of notes: below 0, if the one goes ahead of the other. -/
def order (m n : Nt) : Int :=
  if m.level ≠ n.level then cmpI m.level n.level
  else if m.level = 0 then cmpI n.num m.num
  else if less m.first n.first = true then -1
  else if less n.first m.first = true then 1
  else 0
def mayBe (m : Nt) : Bool := isNum m.num && decide (0 ≤ m.level) && decide (m.level ≤ 3) && decide (1 ≤ m.count) && decide (m.count ≤ 64) && isKey m.first && isKey m.last && !less m.last m.first
/-- Are they of one level above 0, and not apart? -/
def meets (m n : Nt) : Bool := decide (m.level = n.level) && decide (0 < m.level) && !less m.last n.first
def spans (m : Nt) (k : List UInt8) : Bool := !less k m.first && !less m.last k
/-- Does it go ahead? -/
def ahead (m n : Nt) : Prop := order m n < 0
theorem cmpI_neg {a b : Int} : cmpI a b < 0 ↔ a < b := by unfold cmpI; split <;> (try split) <;> omega
theorem ahead_iff {m n : Nt} : ahead m n ↔ m.level < n.level ∨ m.level = n.level ∧ (m.level = 0 ∧ n.num < m.num ∨ m.level ≠ 0 ∧ less m.first n.first = true) := by
  unfold ahead order
  by_cases h1 : m.level = n.level
  · rw [if_neg (fun h => h h1)]
    by_cases h2 : m.level = 0
    · rw [if_pos h2, cmpI_neg]
      refine ⟨fun h => .inr ⟨h1, .inl ⟨h2, h⟩⟩, ?_⟩
      rintro (h | ⟨_, ⟨_, h⟩ | ⟨h, _⟩⟩)
      · omega
      · exact h
      · exact absurd h2 h
    · rw [if_neg h2]
      cases h3 : less m.first n.first with
      | true =>
        rw [if_pos rfl]
        exact ⟨fun _ => .inr ⟨h1, .inr ⟨h2, rfl⟩⟩, fun _ => by decide⟩
      | false =>
        rw [if_neg (by decide)]
        refine ⟨fun h => ?_, ?_⟩
        · split at h <;> omega
        · rintro (h | ⟨_, ⟨h, _⟩ | ⟨_, h⟩⟩)
          · omega
          · exact absurd h h2
          · cases h
  · rw [if_pos h1, cmpI_neg]
    refine ⟨fun h => .inl h, ?_⟩
    rintro (h | ⟨h, _⟩)
    · exact h
    · exact absurd h h1
theorem ahead_irrefl (m : Nt) : ¬ ahead m m := by
  rw [ahead_iff]
  rintro (h | ⟨_, ⟨_, h⟩ | ⟨_, h⟩⟩)
  · omega
  · omega
  · rw [less_irrefl] at h; cases h
theorem ahead_trans {a b c : Nt} (h1 : ahead a b) (h2 : ahead b c) : ahead a c := by
  rw [ahead_iff] at h1 h2 ⊢
  rcases h1 with h1 | ⟨e1, ⟨z1, n1⟩ | ⟨z1, l1⟩⟩ <;> rcases h2 with h2 | ⟨e2, ⟨z2, n2⟩ | ⟨z2, l2⟩⟩
  · exact .inl (by omega)
  · exact .inl (by omega)
  · exact .inl (by omega)
  · exact .inl (by omega)
  · exact .inr ⟨by omega, .inl ⟨z1, by omega⟩⟩
  · omega
  · exact .inl (by omega)
  · omega
  · exact .inr ⟨by omega, .inr ⟨z1, less_trans l1 l2⟩⟩
/-- Neither goes ahead: that leads on, too. -/
theorem apart_trans {a b c : Nt} (h1 : ¬ ahead a b) (h2 : ¬ ahead b c) : ¬ ahead a c := by
  rw [ahead_iff] at h1 h2 ⊢
  intro h
  have e1 : ¬ a.level < b.level := fun e => h1 (.inl e)
  have e2 : ¬ b.level < c.level := fun e => h2 (.inl e)
  rcases h with h | ⟨e, h⟩
  · omega
  · have e3 : a.level = b.level := by omega
    have e4 : b.level = c.level := by omega
    rcases h with ⟨z, n⟩ | ⟨z, l⟩
    · have n1 : ¬ b.num < a.num := fun q => h1 (.inr ⟨e3, .inl ⟨z, q⟩⟩)
      have n2 : ¬ c.num < b.num := fun q => h2 (.inr ⟨e4, .inl ⟨by omega, q⟩⟩)
      omega
    · have l1 : less a.first b.first = false := by
        cases q : less a.first b.first with
        | false => rfl
        | true => exact absurd (.inr ⟨e3, .inr ⟨z, q⟩⟩) h1
      have l2 : less b.first c.first = false := by
        cases q : less b.first c.first with
        | false => rfl
        | true => exact absurd (.inr ⟨e4, .inr ⟨by omega, q⟩⟩) h2
      -- c ≤ b ≤ a, and a < c
      cases q : less b.first a.first with
      | true =>
        have := less_trans q l
        rw [l2] at this
        cases this
      | false =>
        have := less_total l1 q
        rw [this] at l
        rw [l2] at l
        cases l
end Go.Proofs.YtogphpejdnhnjaaGreatDoor.Ed
namespace Go.Proofs.YtogphpejdnhnjaaGreatDoor
open Go.RowKit
open Ed (Nt)

/-- A note as it lies in memory: where its bytes are, besides. -/
structure MV where
  fp : Option Addr
  fc : Nat
  lp : Option Addr
  lc : Nat
  m : Nt
def metaKind : Kind MV where
  size := 5
  vals x := [.int .i64 x.m.num, .int .i64 x.m.level, .int .i64 x.m.count, .slice x.fp x.m.first.length x.fc, .slice x.lp x.m.last.length x.lc]
  held w x := Src w x.fp x.m.first.length x.fc x.m.first ∧ Src w x.lp x.m.last.length x.lc x.m.last
theorem metaKind_ok : metaKind.Ok :=
  ⟨by decide, fun _ => rfl, fun e u hu => by
    simp only [metaKind, List.mem_cons, List.not_mem_nil, or_false] at hu
    rcases hu with rfl | rfl | rfl | rfl | rfl <;> rfl, fun h hb => ⟨h.1.below hb, h.2.below hb⟩⟩
def mv (x : MV) : Value := .agg #[.int .i64 x.m.num, .int .i64 x.m.level, .int .i64 x.m.count, .slice x.fp x.m.first.length x.fc, .slice x.lp x.m.last.length x.lc]
theorem meta_cells {w : World} {b off n c : Nat} {es : List MV} (h : RSrc metaKind w (some ⟨b, off, none⟩) n c es) {i : Nat} {x : MV} (hx : es[i]? = some x) :
    w.cell? ⟨b, off + i * 5, none⟩ = some (.int .i64 x.m.num) ∧ w.cell? ⟨b, off + i * 5 + 1, none⟩ = some (.int .i64 x.m.level) ∧ w.cell? ⟨b, off + i * 5 + 2, none⟩ = some (.int .i64 x.m.count) ∧ w.cell? ⟨b, off + i * 5 + 3, none⟩ = some (.slice x.fp x.m.first.length x.fc) ∧ w.cell? ⟨b, off + i * 5 + 4, none⟩ = some (.slice x.lp x.m.last.length x.lc) := by
  have one : ∀ (j : Nat) (u : Value), (metaKind.vals x)[j]? = some u → w.cell? ⟨b, off + i * 5 + j, none⟩ = some u := fun j u hu => by
    have hj : j < 5 := (List.getElem?_eq_some_iff.1 hu).1
    have := h.cells _ rfl (i * metaKind.size + j) u ((rv_at metaKind_ok j hx hj).trans hu)
    rw [Addr.add_mid] at this
    rw [show off + i * 5 + j = off + (i * metaKind.size + j) by show _ = off + (i * 5 + j); omega]
    exact this
  exact ⟨one 0 _ rfl, one 1 _ rfl, one 2 _ rfl, one 3 _ rfl, one 4 _ rfl⟩
end Go.Proofs.YtogphpejdnhnjaaGreatDoor
namespace Go.Proofs.YtogphpejdnhnjaaGreatDoor
open Go.RowKit

/-- An operation of a region is taken first; where its answer goes is named. -/
theorem takeH {P : Program} {ops : Array Oper} {Q : Exit → Act → World → Prop} {md : Region.Mode} {S : World → Prop} {i : Nat} {oi : Oper} (dd : Nat) {v : Value} {fuel : Nat} {listed : Array Bool} {a : Act} {w : World} (hi : ops[i]? = some oi) (hd : oi.dst = some dd)
    (hs : Region.noSelect ops = true) (hf : Region.free md ops listed i = true) (hr : (Region.ready md ops listed).contains i = true)
    (hQ : ∀ c a w, Q (.panic c) (a.put (some dd) v) w → Q (.panic c) a w) (hy : YieldsIf P ops S oi v a) (hS : S w)
    (h : wpAnyH P md ops Q S fuel (listed.setIfInBounds i true) (a.put (some dd) v) w) : wpAnyH P md ops Q S (fuel + 1) listed a w := by
  rw [← hd] at hQ h
  exact wpAnyH_take hi hs hf hr hQ hy hS h
/-- R where the region ends as it should; never elsewhere. -/
def OnlyN (R : Act → World → Prop) : Exit → Act → World → Prop
  | .normal, a, w => R a w
  | _, _, _ => False
theorem region_share {P : Program} {id : Nat} {ops : Array Oper} {b : Bool} {Q : Exit → Act → World → Prop} {a : Act} {w : World} (R : Act → Act → World → Prop) (h1 : (Code.region id ops b).wp P (OnlyN (R a)) a w) (h2 : ∀ a' w', R a a' w' → Q .normal a' w') : (Code.region id ops b).wp P Q a w :=
  Code.wp_mono (fun e a' w' hh => by
    cases e with
    | normal => exact h2 a' w' hh
    | _ => exact (hh : False).elim) h1
/-- An activation, some slots set. -/
def sets (a : Act) : List (Nat × Value) → Act
  | [] => a
  | (i, v) :: t => sets (a.put (some i) v) t
end Go.Proofs.YtogphpejdnhnjaaGreatDoor
