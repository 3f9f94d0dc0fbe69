/- The walk of skip's copied. -/
/- The walk of skip's aheadOf. -/
/- A skip list's nodes as they lie: next ones by height; where a search stands; no walk. -/
import Derived.Test.YtogphpejdnhnjaaGreatDoorJoinSb
import Derived.Test.YtogphpejdnhnjaaGreatDoorOw
import Derived.Deep.RegionWith
import Derived.BigRegion
namespace Go.Proofs.YtogphpejdnhnjaaGreatDoor
open Go.RowKit
open Sk (Ent)

theorem set_far {w : World} {g b : Nat} (i : Nat) (v : Value) (h : g ≠ b) : (w.setCell ⟨b, i, none⟩ v).heap[g]? = w.heap[g]? := Below.heap_setCell w ⟨b, i, none⟩ v g h
/-- An entry in memory that was made at or beyond B. -/
def OwnE (B : Nat) (w : World) (y : EV) : Prop := w.ownsRow B 5 1 (.slice y.kp y.e.key.length y.kc) y.e.key.length (bv y.e.key) ∧ w.ownsRow B 5 1 (.slice y.vp y.e.val.length y.vc) y.e.val.length (bv y.e.val)
set_option maxHeartbeats 2000000 in
set_option maxRecDepth 100000 in
theorem copied_any (x : EV) (w : World) (hk : x.e.key.length ≤ 140737488355328) (hv : x.e.val.length ≤ 140737488355328) (hh : entKind.held w x) : Calls Tryz.prog 241 #[ev x] w fun e w' => ∃ y : EV, e = .returned (ev y) ∧ y.e = x.e ∧ OwnE w.heap.size w' y ∧ Below w.heap.size w w' := by
  obtain ⟨kp, kc, vp, vc, key, seq, gone, val⟩ := x
  have HK : Hid (Src w kp key.length kc key) := hh.1
  have HV : Hid (Src w vp val.length vc val) := hh.2
  simp only at hk hv
  clear hh
  unfold ev
  simp only
  obtain ⟨K, hK⟩ : ∃ K, key.length = K := ⟨_, rfl⟩
  obtain ⟨V, hV⟩ : ∃ V, val.length = V := ⟨_, rfl⟩
  have HKK := keep hK
  have HVV := keep hV
  rw [hK] at HK hk ⊢
  rw [hV] at HV hv ⊢
  clear hK hV
  obtain ⟨W1, hW1⟩ : ∃ W1, (w.alloc (.cells #[.slice kp K kc, .int .i64 seq, .bool gone, .slice vp V vc] 131)).alloc (.cells #[.slice none 0 0, .int .i64 0, .bool false, .slice none 0 0] 131) = W1 := ⟨_, rfl⟩
  have b1 : Hid (Below w.heap.size w W1) := by rw [← hW1]; exact ((Below.refl _ _).alloc (Nat.le_refl _) _).alloc (by simp) _
  have s1 : Hid (W1.heap.size = w.heap.size + 2) := by rw [← hW1]; show _ = _; simp
  have g0 : Hid (W1.heap[w.heap.size]? = some (.cells #[.slice kp K kc, .int .i64 seq, .bool gone, .slice vp V vc] 131)) := by
    rw [← hW1]; exact (Below.heap_alloc _ _ _ (by simp)).trans (heap_alloc_new w _)
  have g1 : Hid (W1.heap[w.heap.size + 1]? = some (.cells #[.slice none 0 0, .int .i64 0, .bool false, .slice none 0 0] 131)) := by
    have := heap_alloc_new (w.alloc (.cells #[.slice kp K kc, .int .i64 seq, .bool gone, .slice vp V vc] 131)) (.cells #[.slice none 0 0, .int .i64 0, .bool false, .slice none 0 0] 131)
    rw [World.size_alloc] at this
    rw [← hW1]; exact this
  have KC1 : Hid (∀ w', Below W1.heap.size W1 w' → Calls Tryz.prog 122 #[.slice kp K kc] w' fun e w'' => ∃ a c, e = .returned (.slice a K c) ∧ w''.ownsRow w.heap.size 5 1 (.slice a K c) K (bv key) ∧ Below W1.heap.size W1 w'') := fun w' hb => by
    refine (clone_any kp K kc key w' hk (HK.out.below (b1.out.trans (hb.mono b1.out.size)))).mono ?_
    rintro e w'' ⟨v, rfl, hn⟩
    obtain ⟨a, c, rfl, _, _⟩ := hn.src
    exact ⟨a, c, rfl, own_base hn.1 (fun g hg => Nat.le_trans (Nat.le_trans b1.out.size hb.size) (hn.1.lt g hg).1), hb.trans (hn.2.mono hb.size)⟩
  have KC2 : Hid (∀ w', Below W1.heap.size W1 w' → Calls Tryz.prog 122 #[.slice vp V vc] w' fun e w'' => ∃ a c, e = .returned (.slice a V c) ∧ w''.ownsRow w.heap.size 5 1 (.slice a V c) V (bv val) ∧ Below w'.heap.size w' w'') := fun w' hb => by
    refine (clone_any vp V vc val w' hv (HV.out.below (b1.out.trans (hb.mono b1.out.size)))).mono ?_
    rintro e w'' ⟨v, rfl, hn⟩
    obtain ⟨a, c, rfl, _, _⟩ := hn.src
    exact ⟨a, c, rfl, own_base hn.1 (fun g hg => Nat.le_trans (Nat.le_trans b1.out.size hb.size) (hn.1.lt g hg).1), hn.2⟩
  have KG : Hid (∀ w', Below W1.heap.size W1 w' → w'.heap[w.heap.size]? = some (.cells #[.slice kp K kc, .int .i64 seq, .bool gone, .slice vp V vc] 131) ∧ w'.heap[w.heap.size + 1]? = some (.cells #[.slice none 0 0, .int .i64 0, .bool false, .slice none 0 0] 131)) := fun w' hb => ⟨(hb.block _ (by rw [s1.out]; omega)).trans g0.out, (hb.block _ (by rw [s1.out]; omega)).trans g1.out⟩
  have KF : Hid (∀ w', Below W1.heap.size W1 w' → w'.cell? ⟨w.heap.size, 0, none⟩ = some (.slice kp K kc) ∧ w'.cell? ⟨w.heap.size, 3, none⟩ = some (.slice vp V vc) ∧ w'.frozen? ⟨w.heap.size, 0, none⟩ = false ∧ w'.frozen? ⟨w.heap.size, 3, none⟩ = false ∧ w'.cell? ⟨w.heap.size, 1, none⟩ = some (.int .i64 seq) ∧ w'.cell? ⟨w.heap.size, 2, none⟩ = some (.bool gone)) := fun w' hb => by
    have h := (KG.out w' hb).1
    exact ⟨cell_of_row _ _ _ _ _ _ h, cell_of_row _ _ _ _ _ _ h, by simp [World.frozen?, h], by simp [World.frozen?, h], cell_of_row _ _ _ _ _ _ h, cell_of_row _ _ _ _ _ _ h⟩
  have KR : Hid (∀ w', Below W1.heap.size W1 w' → w'.cell? ⟨w.heap.size + 1, 0, none⟩ = some (.slice none 0 0) ∧ w'.cell? ⟨w.heap.size + 1, 1, none⟩ = some (.int .i64 0) ∧ w'.cell? ⟨w.heap.size + 1, 2, none⟩ = some (.bool false) ∧ w'.cell? ⟨w.heap.size + 1, 3, none⟩ = some (.slice none 0 0) ∧ w'.frozen? ⟨w.heap.size + 1, 0, none⟩ = false ∧ w'.frozen? ⟨w.heap.size + 1, 1, none⟩ = false ∧ w'.frozen? ⟨w.heap.size + 1, 2, none⟩ = false ∧ w'.frozen? ⟨w.heap.size + 1, 3, none⟩ = false) := fun w' hb => by
    have h := (KG.out w' hb).2
    exact ⟨cell_of_row _ _ _ _ _ _ h, cell_of_row _ _ _ _ _ _ h, cell_of_row _ _ _ _ _ _ h, cell_of_row _ _ _ _ _ _ h, by simp [World.frozen?, h], by simp [World.frozen?, h], by simp [World.frozen?, h], by simp [World.frozen?, h]⟩
  obtain ⟨c10, c13, f10, f13, _, _⟩ := KF.out W1 (Below.refl _ _)
  go_enter Tryz.func241, Tryz.ntmps241
  go_wp2_with fail
  go_region_with (first
    | (go_at_call 122; go_fit (KC1.out W1.drew (Below.refl _ _).drew); rintro e w2 ⟨a2, k2, rfl, ho2, hb2⟩; have b2 := keep hb2; have O2 := keep ho2; obtain ⟨c20, c23, f20, f23, _, _⟩ := KF.out w2 hb2; clear ho2 hb2)
    | (go_at_call 122; go_fit (KC2.out w2 b2.out); rintro e w3 ⟨a3, k3, rfl, ho3, hb3⟩; have b3 := keep (b2.out.trans (hb3.mono b2.out.size)); have O3 := keep ho3; have O2' := keep (own_block (w' := w3) O2.out (fun g hg => hb3.block g (own_size O2.out hg))); obtain ⟨c30, c33, f30, f33, c31, c32⟩ := KF.out w3 b3.out; have G3 := keep (KG.out w3 b3.out); clear ho3 hb3))
  all_goals
    obtain ⟨d0, d1, d2, d3, e0, e1, e2, e3⟩ := KR.out w3 b3.out
    go_wp2
    have far : ∀ {v : Value} {n : Nat} {xs : List Value}, w3.ownsRow w.heap.size 5 1 v n xs → ∀ g, v.ownBlock = some g → g ≠ w.heap.size ∧ g ≠ w.heap.size + 1 := fun {v n xs} h g hg => by
      obtain ⟨cur, hc⟩ := own_tag h hg
      refine ⟨fun e => ?_, fun e => ?_⟩
      · rw [e, G3.out.1] at hc; cases hc
      · rw [e, G3.out.2] at hc; cases hc
    refine ⟨rfl, .agg #[.slice a2 K k2, .int .i64 seq, .bool gone, .slice a3 V k3], ?_, ⟨a2, k2, a3, k3, ⟨key, seq, gone, val⟩⟩, ?_, rfl, ⟨?_, ?_⟩, ?_⟩
    · clear hW1 c30 c33 c31 c32 c20 c23
      have r0 : (((w3.setCell ⟨w.heap.size, 0, none⟩ (.slice a2 K k2)).setCell ⟨w.heap.size, 3, none⟩ (.slice a3 V k3)).setCell ⟨w.heap.size + 1, 0, none⟩ (.slice a2 K k2)).cell? ⟨w.heap.size + 1, 0, none⟩ = some (.slice a2 K k2) := World.cell?_setCell_same' _ _ _ (by simp [go_sem, d0])
      have r1 : ((((w3.setCell ⟨w.heap.size, 0, none⟩ (.slice a2 K k2)).setCell ⟨w.heap.size, 3, none⟩ (.slice a3 V k3)).setCell ⟨w.heap.size + 1, 0, none⟩ (.slice a2 K k2)).setCell ⟨w.heap.size + 1, 1, none⟩ (.int .i64 seq)).cell? ⟨w.heap.size + 1, 1, none⟩ = some (.int .i64 seq) := World.cell?_setCell_same' _ _ _ (by simp [go_sem, d1])
      have r2 : (((((w3.setCell ⟨w.heap.size, 0, none⟩ (.slice a2 K k2)).setCell ⟨w.heap.size, 3, none⟩ (.slice a3 V k3)).setCell ⟨w.heap.size + 1, 0, none⟩ (.slice a2 K k2)).setCell ⟨w.heap.size + 1, 1, none⟩ (.int .i64 seq)).setCell ⟨w.heap.size + 1, 2, none⟩ (.bool gone)).cell? ⟨w.heap.size + 1, 2, none⟩ = some (.bool gone) := World.cell?_setCell_same' _ _ _ (by simp [go_sem, d2])
      have r3 : ((((((w3.setCell ⟨w.heap.size, 0, none⟩ (.slice a2 K k2)).setCell ⟨w.heap.size, 3, none⟩ (.slice a3 V k3)).setCell ⟨w.heap.size + 1, 0, none⟩ (.slice a2 K k2)).setCell ⟨w.heap.size + 1, 1, none⟩ (.int .i64 seq)).setCell ⟨w.heap.size + 1, 2, none⟩ (.bool gone)).setCell ⟨w.heap.size + 1, 3, none⟩ (.slice a3 V k3)).cell? ⟨w.heap.size + 1, 3, none⟩ = some (.slice a3 V k3) := World.cell?_setCell_same' _ _ _ (by simp [go_sem, d3])
      simp [results, Tryz.f241, go_sem, loadCells, loadCellsFrom, r0, r1, r2, r3]
    · show _ = Ending.returned (Value.agg #[.slice a2 key.length k2, .int .i64 seq, .bool gone, .slice a3 val.length k3])
      rw [HKK.out, HVV.out]
    · show World.ownsRow _ _ _ _ (.slice a2 key.length k2) key.length (bv key)
      rw [HKK.out]
      refine own_block O2'.out (fun g hg => ?_)
      obtain ⟨h1, h2⟩ := far O2'.out g hg
      simp only [set_far _ _ h1, set_far _ _ h2]
    · show World.ownsRow _ _ _ _ (.slice a3 val.length k3) val.length (bv val)
      rw [HVV.out]
      refine own_block O3.out (fun g hg => ?_)
      obtain ⟨h1, h2⟩ := far O3.out g hg
      simp only [set_far _ _ h1, set_far _ _ h2]
    · have h3 := b1.out.trans (b3.out.mono b1.out.size)
      exact ((((((h3.setCell (p := ⟨w.heap.size, 0, none⟩) (Nat.le_refl _) _).setCell (p := ⟨w.heap.size, 3, none⟩) (Nat.le_refl _) _).setCell (p := ⟨w.heap.size + 1, 0, none⟩) (Nat.le_succ _) _).setCell (p := ⟨w.heap.size + 1, 1, none⟩) (Nat.le_succ _) _).setCell (p := ⟨w.heap.size + 1, 2, none⟩) (Nat.le_succ _) _).setCell (p := ⟨w.heap.size + 1, 3, none⟩) (Nat.le_succ _) _)
end Go.Proofs.YtogphpejdnhnjaaGreatDoor
namespace Go.Proofs.YtogphpejdnhnjaaGreatDoor
open Go.RowKit
open Sk (Ent)

set_option maxHeartbeats 1000000 in
set_option maxRecDepth 100000 in
theorem aheadOf_any (kp : Option Addr) (K kc : Nat) (s : Int) (w : World) :
    Calls Tryz.prog 240 #[.slice kp K kc, .int .i64 s] w fun e w' => e = .returned (.func (.func 303) #[] #[.pointer (some ⟨w.heap.size, 0, none⟩), .pointer (some ⟨w.heap.size + 1, 0, none⟩)]) ∧ w' = (w.alloc (.cells #[.slice kp K kc] 47)).alloc (.cells #[.int .i64 s] 3) := by
  go_enter Tryz.func240, Tryz.ntmps240
  go_wp2
  go_ret
  exact ⟨rfl, rfl⟩
/-- The closure of aheadOf: captured are the key, in block p1, and the number, in block p2. -/
def AheadIn (w : World) (p1 p2 : Nat) (key : List UInt8) (s : Int) : Prop := ∃ kp kc, Src w kp key.length kc key ∧ w.cell? ⟨p1, 0, none⟩ = some (.slice kp key.length kc) ∧ w.cell? ⟨p2, 0, none⟩ = some (.int .i64 s)
theorem AheadIn.below {w w' : World} {p1 p2 : Nat} {key : List UInt8} {s : Int} (h : AheadIn w p1 p2 key s) (hb : Below w.heap.size w w') : AheadIn w' p1 p2 key s := by
  obtain ⟨kp, kc, h1, h2, h3⟩ := h
  exact ⟨kp, kc, h1.below hb, below_cell hb h2, below_cell hb h3⟩
set_option maxHeartbeats 1000000 in
set_option maxRecDepth 100000 in
theorem ahead_any (p1 p2 : Nat) (key : List UInt8) (s : Int) (x : EV) (w : World) (h : AheadIn w p1 p2 key s) (hh : entKind.held w x) :
    Calls Tryz.prog 303 #[ev x, .pointer (some ⟨p1, 0, none⟩), .pointer (some ⟨p2, 0, none⟩)] w fun e w' => e = .returned (.bool (Sk.aheadOf key s x.e)) ∧ Below w.heap.size w w' := by
  obtain ⟨kp, kc, hs, hc1, hc2⟩ := h
  obtain ⟨xkp, xkc, xvp, xvc, xkey, xseq, xgone, xval⟩ := x
  have hk : Src w xkp xkey.length xkc xkey := hh.1
  clear hh
  unfold ev Sk.aheadOf
  simp only
  have hal := keep ((Below.refl w.heap.size w).alloc (Nat.le_refl _) (.cells #[.slice xkp xkey.length xkc, .int .i64 xseq, .bool xgone, .slice xvp xval.length xvc] 131))
  have d1 := below_cell hal.out hc1
  have d2 := below_cell hal.out hc2
  have EQ := keep (equal_any xkp xkey.length xkc xkey kp key.length kc key _ (hk.below hal.out) (hs.below hal.out))
  have LS := keep (less_any xkp xkey.length xkc xkey kp key.length kc key _ (hk.below hal.out) (hs.below hal.out))
  clear hs hc1 hc2 hk
  by_cases hq : xkey = key
  · rw [decide_eq_true hq] at EQ
    rw [if_pos hq]
    clear hq
    go_enter Tryz.func303, Tryz.ntmps303
    go_wp2_with fail
    refine EQ.out.mono ?_
    rintro e w1 ⟨rfl, rfl⟩
    go_wp2
    go_ret
    exact ⟨rfl, hal.out⟩
  · rw [decide_eq_false hq] at EQ
    rw [if_neg hq]
    clear hq
    go_enter Tryz.func303, Tryz.ntmps303
    go_wp2_with fail
    refine EQ.out.mono ?_
    rintro e w1 ⟨rfl, rfl⟩
    go_wp2_with fail
    refine LS.out.mono ?_
    rintro e w2 ⟨rfl, rfl⟩
    go_wp2
    go_ret
    exact ⟨rfl, hal.out⟩
end Go.Proofs.YtogphpejdnhnjaaGreatDoor
namespace Go.Proofs.YtogphpejdnhnjaaGreatDoor
open Go.RowKit
open Sk (Ent)

/-- A node: its block, its entry, how high it is. -/
structure Nd where
  g : Nat
  x : EV
  h : Nat
/-- The first one that is higher than j. -/
def nxt : List Nd → Nat → Value
  | [], _ => .pointer none
  | n :: l, j => if j < n.h then .pointer (some ⟨n.g, 0, none⟩) else nxt l j
/-- Its place, if there is one. -/
def nxtAt : List Nd → Nat → Option Nat
  | [], _ => none
  | n :: l, j => if j < n.h then some 0 else (nxtAt l j).map (· + 1)
theorem nxt_none {l : List Nd} {j : Nat} (h : nxtAt l j = none) : nxt l j = .pointer none ∧ ∀ n ∈ l, ¬ j < n.h := by
  induction l with
  | nil => exact ⟨rfl, fun n h => by cases h⟩
  | cons m l ih =>
    simp only [nxtAt] at h
    split at h
    · cases h
    · rename_i hm
      cases hx : nxtAt l j with
      | some r => rw [hx] at h; cases h
      | none =>
        obtain ⟨h1, h2⟩ := ih hx
        refine ⟨by simp only [nxt]; rw [if_neg hm]; exact h1, fun n hn => ?_⟩
        rcases List.mem_cons.1 hn with rfl | hn
        · exact hm
        · exact h2 n hn
theorem nxt_some {l : List Nd} {j r : Nat} (h : nxtAt l j = some r) : ∃ n, l[r]? = some n ∧ j < n.h ∧ nxt l j = .pointer (some ⟨n.g, 0, none⟩) ∧ ∀ i m, i < r → l[i]? = some m → ¬ j < m.h := by
  induction l generalizing r with
  | nil => cases h
  | cons m l ih =>
    simp only [nxtAt] at h
    split at h
    · rename_i hm
      cases h
      exact ⟨m, rfl, hm, by simp only [nxt]; rw [if_pos hm], fun i k hi => absurd hi (Nat.not_lt_zero _)⟩
    · rename_i hm
      cases hx : nxtAt l j with
      | none => rw [hx] at h; cases h
      | some q =>
        rw [hx] at h
        simp only [Option.map_some, Option.some.injEq] at h
        subst h
        obtain ⟨n, h1, h2, h3, h4⟩ := ih hx
        refine ⟨n, by simpa using h1, h2, by simp only [nxt]; rw [if_neg hm]; exact h3, fun i k hi hk => ?_⟩
        cases i with
        | zero =>
          simp only [List.getElem?_cons_zero, Option.some.injEq] at hk
          subst hk
          exact hm
        | succ i => exact h4 i k (by omega) (by simpa using hk)
/-- The block at place q: 0 is the head. -/
def blk (b : Nat) (ns : List Nd) : Nat → Nat
  | 0 => b
  | q + 1 => match ns[q]? with | some n => n.g | none => b
/-- At place q one may go along level j. -/
def high (ns : List Nd) (j : Nat) : Nat → Prop
  | 0 => True
  | q + 1 => ∃ n, ns[q]? = some n ∧ j < n.h
/-- The nodes in memory, behind the head in block b. -/
structure Chain (w : World) (b : Nat) (ns : List Nd) : Prop where
  head : ∀ j, j < 12 → w.cell? ⟨b, 4 + j, none⟩ = some (nxt ns j)
  links : ∀ (i : Nat) n, ns[i]? = some n → ∀ j, j < 12 → w.cell? ⟨n.g, 4 + j, none⟩ = some (if j < n.h then nxt (ns.drop (i + 1)) j else .pointer none)
  ents : ∀ n ∈ ns, (∀ (j : Nat) u, (entKind.vals n.x)[j]? = some u → w.cell? ⟨n.g, j, none⟩ = some u) ∧ entKind.held w n.x
theorem Chain.below {w w' : World} {b : Nat} {ns : List Nd} (h : Chain w b ns) (hb : Below w.heap.size w w') : Chain w' b ns :=
  ⟨fun j hj => below_cell hb (h.head j hj), fun i n hn j hj => below_cell hb (h.links i n hn j hj), fun n hn => ⟨fun j u hu => below_cell hb ((h.ents n hn).1 j u hu), entKind_ok.below (h.ents n hn).2 hb⟩⟩
theorem Chain.at_ {w : World} {b : Nat} {ns : List Nd} (h : Chain w b ns) {q j : Nat} (hq : high ns j q) (hj : j < 12) : w.cell? ⟨blk b ns q, 4 + j, none⟩ = some (nxt (ns.drop q) j) := by
  cases q with
  | zero => exact h.head j hj
  | succ q =>
    obtain ⟨n, hn, hh⟩ := hq
    have := h.links q n hn j hj
    rw [if_pos hh] at this
    simp only [blk, hn]
    exact this
/-- The last place among the first k at which one may go along level j. -/
def lastAt (ns : List Nd) (j : Nat) : Nat → Nat
  | 0 => 0
  | k + 1 => match ns[k]? with | some n => if j < n.h then k + 1 else lastAt ns j k | none => lastAt ns j k
theorem lastAt_le (ns : List Nd) (j : Nat) : ∀ k, lastAt ns j k ≤ k
  | 0 => Nat.le_refl _
  | k + 1 => by
    simp only [lastAt]
    have := lastAt_le ns j k
    split
    · split <;> omega
    · omega
theorem lastAt_high (ns : List Nd) (j : Nat) : ∀ k, high ns j (lastAt ns j k)
  | 0 => trivial
  | k + 1 => by
    simp only [lastAt]
    split
    · rename_i n hn
      split
      · rename_i hh
        exact ⟨n, hn, hh⟩
      · exact lastAt_high ns j k
    · exact lastAt_high ns j k
/-- No higher one between q and k: q is the last place. -/
theorem lastAt_eq {ns : List Nd} {j q : Nat} (hq : high ns j q) : ∀ {k : Nat}, q ≤ k → (∀ i m, q ≤ i → i < k → ns[i]? = some m → ¬ j < m.h) → lastAt ns j k = q
  | 0, h, _ => by simp only [lastAt]; omega
  | k + 1, h, hn => by
    rcases Nat.lt_or_ge q (k + 1) with h1 | h1
    · have ih := lastAt_eq hq (k := k) (by omega) (fun i m h2 h3 h4 => hn i m h2 (by omega) h4)
      simp only [lastAt]
      split
      · rename_i n hx
        rw [if_neg (hn k n (by omega) (by omega) hx)]
        exact ih
      · exact ih
    · have e : q = k + 1 := by omega
      subst e
      obtain ⟨n, h2, h3⟩ := hq
      simp only [lastAt, h2]
      rw [if_pos h3]
theorem high_less {ns : List Nd} {i j q : Nat} (h : high ns j q) (hij : i ≤ j) : high ns i q := by
  cases q with
  | zero => trivial
  | succ q =>
    obtain ⟨n, h1, h2⟩ := h
    exact ⟨n, h1, by omega⟩
end Go.Proofs.YtogphpejdnhnjaaGreatDoor
