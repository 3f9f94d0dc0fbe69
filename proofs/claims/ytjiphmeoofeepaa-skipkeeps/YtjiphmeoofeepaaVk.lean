/- skip's Put and Get, whole: by the entries alone; no walk. -/
import Derived.Test.YtjiphmeoofeepaaVg
import Derived.Test.YtjiphmeoofeepaaSi
namespace Go.Proofs.Ytjiphmeoofeepaa
open Go.RowKit
open Sk (Ent)

/-- Is it put? -/
def putOk (l : List Ent) (e : Ent) (h : Int) : Bool := Sk.may e && (decide (1 ≤ h) && decide (h ≤ 12)) && !Sk.there l e
def putE (l : List Ent) (e : Ent) (h : Int) : List Ent := if putOk l e h then Sk.ins l e else l
def putN (l : List Ent) (e : Ent) (h : Int) : Int := if putOk l e h then 0 else 1
theorem put_any (B b : Nat) (ns : List Nd) (x : EV) (hgt : Int) (w : World) (hM : LMem B w b ns) (hBw : B ≤ w.heap.size) (hln : ns.length ≤ 1000000) (hx : entKind.held w x) (hk : x.e.key.length ≤ 9223372036854775807) (hv : x.e.val.length ≤ 9223372036854775807) :
    Calls Try.prog 7 #[.pointer (some ⟨b, 0, none⟩), ev x, .int .i64 hgt] w fun e w' => e = .returned (.int .i64 (putN (ents ns) x.e hgt)) ∧ ∃ ns', LMem B w' b ns' ∧ ents ns' = putE (ents ns) x.e hgt ∧ Kept (foot b ns) w w' ∧ ∀ g, foot b ns' g → foot b ns g ∨ w.heap.size ≤ g := by
  have bad : ∀ (h : putOk (ents ns) x.e hgt = false) (e : Ending) (w' : World), e = .returned (.int .i64 1) → Below w.heap.size w w' → e = .returned (.int .i64 (putN (ents ns) x.e hgt)) ∧ ∃ ns', LMem B w' b ns' ∧ ents ns' = putE (ents ns) x.e hgt ∧ Kept (foot b ns) w w' ∧ ∀ g, foot b ns' g → foot b ns g ∨ w.heap.size ≤ g := fun h e w' he hb => by
    refine ⟨by rw [he]; unfold putN; rw [h]; rfl, ns, hM.below hb, by unfold putE; rw [h]; rfl, Kept.of_below hb, fun g hg => .inl hg⟩
  cases hm : Sk.may x.e with
  | false =>
    refine (put_bad b x hgt w hk hv (.inl hm)).mono ?_
    rintro e w' ⟨he, hb⟩
    exact bad (by unfold putOk; rw [hm]; rfl) e w' he hb
  | true =>
    by_cases hh : 1 ≤ hgt ∧ hgt ≤ 12
    · obtain ⟨n, hn⟩ : ∃ n : Nat, hgt = (n : Int) := ⟨hgt.toNat, by omega⟩
      subst hn
      have hd : (decide ((1 : Int) ≤ (n : Int)) && decide ((n : Int) ≤ 12)) = true := by simp; omega
      cases ht : Sk.there (ents ns) x.e with
      | true =>
        refine (put_there B b ns x n w hM hx hm (by omega) (by omega) ht).mono ?_
        rintro e w' ⟨he, hb⟩
        exact bad (by unfold putOk; rw [ht]; simp) e w' he hb
      | false =>
        have hok : putOk (ents ns) x.e (n : Int) = true := by unfold putOk; rw [hm, hd, ht]; rfl
        refine (put_new B b ns x n w hM hBw hln hx hm (by omega) (by omega) ht).mono ?_
        rintro e w' ⟨he, m, h1, h2, h3, h4, h5, _⟩
        refine ⟨by rw [he]; unfold putN; rw [hok]; rfl, _, h4, ?_, h5, fun g hg => ?_⟩
        · unfold putE
          rw [hok, if_pos rfl, ents_ins]
          unfold Sk.ins
          rw [← place_at, h1]
        · rcases hg with h6 | ⟨k, hk1, h6⟩
          · exact .inl (.inl h6)
          · rcases List.mem_append.1 hk1 with h7 | h7
            · exact .inl (.inr ⟨k, List.mem_of_mem_take h7, h6⟩)
            · rcases List.mem_cons.1 h7 with rfl | h7
              · exact .inr (by rw [← h6]; exact h3)
              · exact .inl (.inr ⟨k, List.mem_of_mem_drop h7, h6⟩)
    · have hd : (decide (1 ≤ hgt) && decide (hgt ≤ 12)) = false := by
        cases hq : (decide (1 ≤ hgt) && decide (hgt ≤ 12)) with
        | false => rfl
        | true => exact absurd (by simpa using hq) hh
      refine (put_bad b x hgt w hk hv (.inr hh)).mono ?_
      rintro e w' ⟨he, hb⟩
      exact bad (by unfold putOk; rw [hd]; simp) e w' he hb
theorem put_anyN (B b : Nat) (ns : List Nd) (x : EV) (hgt : Int) (w : World) (hM : LMem B w b ns) (hBw : B ≤ w.heap.size) (hln : ns.length ≤ 1000000) (hx : entKind.held w x) (hk : x.e.key.length ≤ 9223372036854775807) (hv : x.e.val.length ≤ 9223372036854775807) :
    Calls Try.prog 7 #[.pointer (some ⟨b, 0, none⟩), ev x, .int .i64 hgt] w fun e w' => e = .returned (.int .i64 (putN (ents ns) x.e hgt)) ∧ ∃ ns', LMem B w' b ns' ∧ ents ns' = putE (ents ns) x.e hgt ∧ Kept (foot b ns) w w' ∧ ∀ n ∈ ns', n ∈ ns ∨ (w.heap.size ≤ n.g ∧ NewB w.heap.size n.x) := by
  have bad : ∀ (h : putOk (ents ns) x.e hgt = false) (e : Ending) (w' : World), e = .returned (.int .i64 1) → Below w.heap.size w w' → e = .returned (.int .i64 (putN (ents ns) x.e hgt)) ∧ ∃ ns', LMem B w' b ns' ∧ ents ns' = putE (ents ns) x.e hgt ∧ Kept (foot b ns) w w' ∧ ∀ n ∈ ns', n ∈ ns ∨ (w.heap.size ≤ n.g ∧ NewB w.heap.size n.x) := fun h e w' he hb => by
    refine ⟨by rw [he]; unfold putN; rw [h]; rfl, ns, hM.below hb, by unfold putE; rw [h]; rfl, Kept.of_below hb, fun n hn => .inl hn⟩
  cases hm : Sk.may x.e with
  | false =>
    refine (put_bad b x hgt w hk hv (.inl hm)).mono ?_
    rintro e w' ⟨he, hb⟩
    exact bad (by unfold putOk; rw [hm]; rfl) e w' he hb
  | true =>
    by_cases hh : 1 ≤ hgt ∧ hgt ≤ 12
    · obtain ⟨n, hn⟩ : ∃ n : Nat, hgt = (n : Int) := ⟨hgt.toNat, by omega⟩
      subst hn
      have hd : (decide ((1 : Int) ≤ (n : Int)) && decide ((n : Int) ≤ 12)) = true := by simp; omega
      cases ht : Sk.there (ents ns) x.e with
      | true =>
        refine (put_there B b ns x n w hM hx hm (by omega) (by omega) ht).mono ?_
        rintro e w' ⟨he, hb⟩
        exact bad (by unfold putOk; rw [ht]; simp) e w' he hb
      | false =>
        have hok : putOk (ents ns) x.e (n : Int) = true := by unfold putOk; rw [hm, hd, ht]; rfl
        refine (put_new B b ns x n w hM hBw hln hx hm (by omega) (by omega) ht).mono ?_
        rintro e w' ⟨he, m, h1, h2, h3, h4, h5, h6⟩
        refine ⟨by rw [he]; unfold putN; rw [hok]; rfl, _, h4, ?_, h5, fun k hk1 => ?_⟩
        · unfold putE
          rw [hok, if_pos rfl, ents_ins]
          unfold Sk.ins
          rw [← place_at, h1]
        · rcases List.mem_append.1 hk1 with h7 | h7
          · exact .inl (List.mem_of_mem_take h7)
          · rcases List.mem_cons.1 h7 with rfl | h7
            · exact .inr ⟨h3, h6⟩
            · exact .inl (List.mem_of_mem_drop h7)
    · have hd : (decide (1 ≤ hgt) && decide (hgt ≤ 12)) = false := by
        cases hq : (decide (1 ≤ hgt) && decide (hgt ≤ 12)) with
        | false => rfl
        | true => exact absurd (by simpa using hq) hh
      refine (put_bad b x hgt w hk hv (.inr hh)).mono ?_
      rintro e w' ⟨he, hb⟩
      exact bad (by unfold putOk; rw [hd]; simp) e w' he hb
theorem putE_length (l : List Ent) (e : Ent) (h : Int) : (putE l e h).length ≤ l.length + 1 := by
  unfold putE
  split
  · rw [Sk.ins_length]; exact Nat.le_refl _
  · omega
theorem ents_length (ns : List Nd) : (ents ns).length = ns.length := by unfold ents; simp

def zeroE : Ent := ⟨[], 0, false, []⟩
/-- The version of a key at a number. -/
def hitE (l : List Ent) (key : List UInt8) (s : Int) : Option Ent := match l[Sk.count (Sk.aheadOf key s) l]? with | some e => if e.key = key then some e else none | none => none
theorem hit_ents (ns : List Nd) (key : List UInt8) (s : Int) : (hit ns key s).map (·.x.e) = hitE (ents ns) key s := by
  unfold hit hitE place ents
  rw [List.getElem?_map]
  cases ns[Sk.count (Sk.aheadOf key s) (ns.map (·.x.e))]? with
  | none => rfl
  | some n =>
    simp only [Option.map_some]
    split <;> rfl
theorem held_zero (w : World) : entKind.held w evZ := ⟨src_nil w, src_nil w⟩
theorem get_any (b : Nat) (ns : List Nd) (kp : Option Addr) (kc : Nat) (key : List UInt8) (s : Int) (w : World) (h : SMem w b ns) (hs : Src w kp key.length kc key) :
    Calls Try.prog 11 #[.pointer (some ⟨b, 0, none⟩), .slice kp key.length kc, .int .i64 s] w fun e w' => ∃ y : EV, e = .returned (.tuple #[ev y, .bool (hitE (ents ns) key s).isSome]) ∧ y.e = (hitE (ents ns) key s).getD zeroE ∧ entKind.held w' y ∧ Below w.heap.size w w' := by
  have hh := hit_ents ns key s
  cases hx : hit ns key s with
  | none =>
    rw [hx] at hh
    simp only [Option.map_none] at hh
    refine (get_none b ns kp kc key s w h hs hx).mono ?_
    rintro e w' ⟨rfl, hb⟩
    exact ⟨evZ, by rw [← hh]; rfl, by rw [← hh]; rfl, held_zero w', hb⟩
  | some n =>
    rw [hx] at hh
    simp only [Option.map_some] at hh
    refine (get_some b ns n kp kc key s w h hs hx).mono ?_
    rintro e w' ⟨y, rfl, h1, h2, hb⟩
    exact ⟨y, by rw [← hh]; rfl, by rw [← hh, h1]; rfl, h2.held, hb⟩
end Go.Proofs.Ytjiphmeoofeepaa
