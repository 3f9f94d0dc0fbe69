/- A drawn region whose last operation waits for all the others: that operation may be parted from it; no walk. -/
/- A drawn region's last operation parted from it, as one step; operations taken by hand; no walk. -/
/- The walks of slices.Chunk over bytes, at 4096 a chunk, and of its iterator. -/
import Derived.Test.YthnebhddakfadaaGreatDoorJoinHk
import Derived.Test.YthnebhddakfadaaGreatDoorJoinUn
import Derived.Test.YthnebhddakfadaaGreatDoorJoinOz
import Derived.RangeFuncNested
import Derived.RangeFuncWrites
import Derived.RangeFuncBound
import Derived.RangeFuncCalls
import Derived.RangeFuncLeaves
import Derived.Shelf.Abstract
import Derived.Shelf.RegionOpen
import Derived.WalkKit
import Derived.OwnWalkIn
import Derived.TacticsInMore
import Derived.LoopNIn
import Derived.LoopIn
namespace Go.Proofs.YthnebhddakfadaaGreatDoor
open Go.RowKit

/-- The region's post, ahead of its last operation. -/
def LastQ (P : Program) (o : Oper) (Q : Exit → Act → World → Prop) : Exit → Act → World → Prop
  | .normal, a, w => o.wp P a w (fun a' w' => Q .normal a' w') Q
  | .exit i, a, w => Q (.exit i) a w
  | .ret, a, w => Q .ret a w
  | .panic c, a, w => Q (.panic c) a w
  | .outgrown, a, w => Q .outgrown a w
  | .goto i, a, w => Q (.goto i) a w
section
variable {P : Program} {md : Region.Mode} {ops ops' : Array Oper} {Q : Exit → Act → World → Prop} {L : Nat} {o o' : Oper}
theorem wp_lastQ {p : Oper} {a : Act} {w : World} {K K' : Act → World → Prop} (hK : ∀ a w, K a w → K' a w) (h : p.wp P a w K (LastQ P o Q)) : p.wp P a w K' Q := by
  unfold Oper.wp at *
  generalize (execOp a.eval p).run P w = r at *
  cases r with
  | ok n w' =>
    cases n with
    | enter f args =>
      refine Calls.mono h fun e w'' he => ?_
      cases e with
      | returned u => exact hK _ _ he
      | panicked c => exact he
      | outgrown => exact he
    | row row args => exact Rows.mono h fun u w'' he => hK _ _ he
    | value u => exact hK _ _ h
    | skip => exact hK _ _ h
    | defer d => exact hK _ _ h
    | _ => exact h
  | halt x w' => cases x <;> exact h
theorem ready_same (hsz : ops'.size = ops.size) (hL : ops[L]? = some o) (hL' : ops'[L]? = some o') (hsame : ∀ j, j ≠ L → ops'[j]? = ops[j]?) (haf : o'.after = o.after) (listed : Array Bool) : Region.ready md ops' listed = Region.ready md ops listed := by
  unfold Region.ready
  rw [hsz]
  refine List.filter_congr fun i _ => ?_
  by_cases h : i = L
  · subst h; rw [hL, hL']; simp [haf]
  · rw [hsame i h]
theorem yielded_same (hL : ops[L]? = some o) (hL' : ops'[L]? = some o') (hsame : ∀ j, j ≠ L → ops'[j]? = ops[j]?) (hd : o.dst = none) (hd' : o'.dst = none) (t : Array Value) : yielded ops' t = yielded ops t := by
  funext j
  unfold yielded
  by_cases h : j = L
  · subst h; rw [hL, hL']; simp [hd, hd']
  · rw [hsame j h]
theorem getD_flip {l : Array Bool} {j : Nat} (hj : j < l.size) : l.getD j false = l.getD j true := by simp [Array.getD, hj]
theorem ready_some (htop : ∀ (j : Nat) (oj : Oper), ops[j]? = some oj → ∀ e ∈ oj.after, e.on < j) {listed : Array Bool} (hs : listed.size = ops.size) : ∀ j, listed.getD j true = false → Region.ready md ops listed ≠ [] := by
  intro j
  induction j using Nat.strongRecOn with
  | _ j ih =>
    intro hj hn
    have hlt : j < listed.size := by
      rcases Nat.lt_or_ge j listed.size with h | h
      · exact h
      · rw [Array.getD_eq_getD_getElem?, Array.getElem?_eq_none h] at hj; cases hj
    have hmem : j ∈ Region.ready md ops listed := by
      refine mem_ready.2 ⟨hj, ops[j]'(by omega), Array.getElem?_eq_getElem _, fun e he _ => ?_⟩
      have hel := htop j _ (Array.getElem?_eq_getElem (by omega)) e he
      rw [getD_flip (by omega)]
      cases hx : listed.getD e.on true with
      | true => rfl
      | false => exact absurd hn (ih e.on hel hx)
    rw [hn] at hmem
    cases hmem
end
end Go.Proofs.YthnebhddakfadaaGreatDoor
namespace Go.Proofs.YthnebhddakfadaaGreatDoor
open Go.RowKit

section
variable {P : Program} {md : Region.Mode} {ops ops' : Array Oper} {Q : Exit → Act → World → Prop} {L : Nat} {o o' : Oper}
/-- What an operation that has come up waits for has come up. -/
def ShutL (md : Region.Mode) (ops : Array Oper) (listed : Array Bool) : Prop := ∀ (j : Nat) (oj : Oper), ops[j]? = some oj → listed.getD j false = true → ∀ e ∈ oj.after, Region.binds md e = true → listed.getD e.on false = true
/-- The last operation waits for each other one, or for one that waits for it. -/
def Waits (md : Region.Mode) (ops : Array Oper) (L : Nat) (o : Oper) : Prop := ∀ j, j < ops.size → j ≠ L → ∃ e ∈ o.after, Region.binds md e = true ∧ (e.on = j ∨ ∃ om, ops[e.on]? = some om ∧ ∃ f ∈ om.after, Region.binds md f = true ∧ f.on = j)
theorem getD_set_keep {l : Array Bool} {i j : Nat} (h : l.getD j false = true) : (l.setIfInBounds i true).getD j false = true := by
  simp only [Array.getD_eq_getD_getElem?, Array.getElem?_setIfInBounds] at h ⊢
  split
  · split
    · rfl
    · rename_i h1 h2
      subst h1
      rw [Array.getElem?_eq_none (by omega)] at h
      exact h
  · exact h
theorem ShutL.set {listed : Array Bool} (h : ShutL md ops listed) (_hs : listed.size = ops.size) {i : Nat} (hi : i ∈ Region.ready md ops listed) : ShutL md ops (listed.setIfInBounds i true) := by
  intro j oj hj hl e he hb
  obtain ⟨_, o2, ho2, hw⟩ := mem_ready.1 hi
  by_cases hji : j = i
  · subst hji
    rw [hj] at ho2
    cases ho2
    exact getD_set_keep (hw e he hb)
  · refine getD_set_keep (h j oj hj ?_ e he hb)
    simp only [Array.getD_eq_getD_getElem?, Array.getElem?_setIfInBounds, if_neg (Ne.symm hji)] at hl ⊢
    exact hl
theorem ready_last2 (hL : ops[L]? = some o) (hall : Waits md ops L o) {listed : Array Bool} (hs : listed.size = ops.size) (hc : ShutL md ops listed) (hr : L ∈ Region.ready md ops listed) : Region.ready md ops (listed.setIfInBounds L true) = [] := by
  obtain ⟨_, o2, ho2, hw⟩ := mem_ready.1 hr
  rw [hL] at ho2
  cases ho2
  rw [List.eq_nil_iff_forall_not_mem]
  intro j hj
  obtain ⟨hf, oj, hoj, _⟩ := mem_ready.1 hj
  have hjl : j < ops.size := (Array.getElem?_eq_some_iff.1 hoj).1
  by_cases h : j = L
  · subst h
    simp [Array.getD, hs, hjl] at hf
  · have hlist : listed.getD j false = true := by
      obtain ⟨e, he, hb, h2⟩ := hall j hjl h
      have h1 := hw e he hb
      rcases h2 with rfl | ⟨om, hom, f, hfm, hbf, rfl⟩
      · exact h1
      · exact hc e.on om hom h1 f hfm hbf
    rw [getD_flip (by omega)] at hlist
    have h3 : (listed.setIfInBounds L true).getD j true = listed.getD j true := by
      simp only [Array.getD_eq_getD_getElem?, Array.getElem?_setIfInBounds, if_neg (fun e => h (Eq.symm e))]
    rw [h3, hlist] at hf
    cases hf
theorem wpAny_last2 (hsz : ops'.size = ops.size) (hL : ops[L]? = some o) (hL' : ops'[L]? = some o') (hsame : ∀ j, j ≠ L → ops'[j]? = ops[j]?) (haf : o'.after = o.after) (hd : o.dst = none) (hd' : o'.dst = none) (hg : o.guard = none) (hg' : o'.guard = none)
    (hop : ∀ (a : Act) (w : World), ∃ v, (execOp a.eval o').run P w = .ok (.value v) w) (hask : ∀ (a : Act) (w : World), ¬ o'.asks P a w)
    (htop : ∀ (j : Nat) (oj : Oper), ops[j]? = some oj → ∀ e ∈ oj.after, e.on < j) (hall : Waits md ops L o) :
    ∀ (fuel : Nat) (listed : Array Bool) (a : Act) (w : World), listed.size = ops.size → listed.getD L true = false → ShutL md ops listed → wpAny P md ops' (LastQ P o Q) fuel listed a w → wpAny P md ops Q fuel listed a w := by
  intro fuel
  induction fuel with
  | zero =>
    intro listed a w hs hl hc h
    exact absurd ((ready_same hsz hL hL' hsame haf listed).symm.trans h.1) (ready_some htop hs L hl)
  | succ fuel ih =>
    intro listed a w hs hl hc h
    refine ⟨fun h0 => absurd h0 (ready_some htop hs L hl), fun i hi => ?_⟩
    have h1 := h.2 i (by rw [ready_same hsz hL hL' hsame haf]; exact hi)
    by_cases hiL : i = L
    · subst hiL
      have hnil := ready_last2 hL hall hs hc hi
      have hnil' := (ready_same hsz hL hL' hsame haf (listed.setIfInBounds i true)).trans hnil
      unfold wpOp at h1 ⊢
      simp only [hL'] at h1
      simp only [hL]
      rw [if_pos (by simp [Region.wanted, hg'])] at h1
      rw [if_pos (by simp [Region.wanted, hg])]
      rcases h1 with h1 | h1
      · obtain ⟨v, hv⟩ := hop a w
        unfold Oper.wp at h1
        rw [hv] at h1
        have h2 : wpAny P md ops' (LastQ P o Q) fuel (listed.setIfInBounds i true) (a.put o'.dst v) w := h1
        rw [hd'] at h2
        have h3 : LastQ P o Q .normal a w := by
          cases fuel with
          | zero => exact h2.2
          | succ n => exact h2.1 hnil'
        refine .inl (Oper.wp_mono (fun a' w' hq => ?_) (show o.wp P a w (fun a' w' => Q .normal a' w') Q from h3))
        cases fuel with
        | zero => exact ⟨hnil, hq⟩
        | succ n => exact ⟨fun _ => hq, fun k hk => by rw [hnil] at hk; cases hk⟩
      · exact absurd h1.1 (hask a w)
    · have hnext : ∀ a w, wpAny P md ops' (LastQ P o Q) fuel (listed.setIfInBounds i true) a w → wpAny P md ops Q fuel (listed.setIfInBounds i true) a w := fun a w hh => by
        refine ih _ a w (by simp [hs]) ?_ (hc.set hs hi) hh
        simp only [Array.getD_eq_getD_getElem?, Array.getElem?_setIfInBounds, if_neg hiL] at hl ⊢
        exact hl
      unfold wpOp at h1 ⊢
      rw [hsame i hiL] at h1
      cases ho : ops[i]? with
      | none => rw [ho] at h1; exact hnext a w h1
      | some oi =>
        rw [ho] at h1
        simp only at h1 ⊢
        rw [yielded_same hL hL' hsame hd hd'] at h1
        split
        · rename_i hw
          rw [if_pos hw] at h1
          rcases h1 with h1 | ⟨h1, h2⟩
          · exact .inl (wp_lastQ hnext h1)
          · exact .inr ⟨h1, h2⟩
        · rename_i hw
          rw [if_neg hw] at h1
          exact hnext _ _ h1
end
/-- An operation that does nothing, in another's place. -/
def mute (o : Oper) : Oper := { o with dst := none, op := .move (.const (.int .i64 0)), guard := none }
def topB (ops : Array Oper) : Bool := (List.range ops.size).all fun j => match ops[j]? with
  | some oj => oj.after.toList.all (fun e => decide (e.on < j))
  | none => true
def allB (ops : Array Oper) (L : Nat) (o : Oper) : Bool := (List.range ops.size).all fun j => j == L || o.after.toList.any (fun e => Region.binds .any e && (e.on == j || match ops[e.on]? with
  | some om => om.after.toList.any (fun f => Region.binds .any f && f.on == j)
  | none => false))
theorem wp_region_parted {P : Program} {id : Nat} {ops : Array Oper} {Q : Exit → Act → World → Prop} {a : Act} {w : World} (S : World → Prop) (L : Nat) (o : Oper) (hm : P.follows .mixedOrders = true) (hL : ops[L]? = some o) (hd : o.dst = none) (hg : o.guard = none) (htop : topB ops = true) (hall : allB ops L o = true) (hS : S w.drew)
    (h : S w.drew → wpAnyH P .any (ops.setIfInBounds L (mute o)) (LastQ P o Q) S ops.size (Array.replicate ops.size false) a w.drew) : (Code.region id ops true).wp P Q a w := by
  have hlt : L < ops.size := (Array.getElem?_eq_some_iff.1 hL).1
  refine wp_region_any hm ?_
  refine wpAny_last2 (ops' := ops.setIfInBounds L (mute o)) (L := L) (o := o) (o' := mute o) (by simp) hL (by simp [hlt]) (fun j hj => by simp [Ne.symm hj]) rfl hd rfl hg rfl (fun a w => ⟨_, by simp [execOp, mute]; rfl⟩) (fun a w ha => by
    have h1 := ha.1
    have h2 : ((execOp a.eval (mute o)).runT P w #[]).2 = #[] := rfl
    rw [h2] at h1
    simp at h1) ?_ ?_ _ _ _ _ (by simp) (by simp [Array.getD, hlt]) (fun j oj _ hl => by simp [Array.getD] at hl) (wpAny_of_held _ _ _ _ (h hS))
  · intro j oj hj e he
    have := List.all_eq_true.1 htop j (List.mem_range.2 (Array.getElem?_eq_some_iff.1 hj).1)
    simp only [hj] at this
    have := List.all_eq_true.1 this e (by simpa using he)
    simpa using this
  · intro j hj hne
    have := List.all_eq_true.1 hall j (List.mem_range.2 hj)
    simp only [Bool.or_eq_true, beq_iff_eq, hne, false_or] at this
    obtain ⟨e, he, h2⟩ := List.any_eq_true.1 this
    simp only [Bool.and_eq_true, Bool.or_eq_true, beq_iff_eq] at h2
    refine ⟨e, by simpa using he, h2.1, ?_⟩
    rcases h2.2 with h3 | h3
    · exact .inl h3
    · right
      cases hom : ops[e.on]? with
      | none => rw [hom] at h3; cases h3
      | some om =>
        rw [hom] at h3
        simp only at h3
        obtain ⟨f, hf, h4⟩ := List.any_eq_true.1 h3
        simp only [Bool.and_eq_true, beq_iff_eq] at h4
        exact ⟨om, rfl, f, by simpa using hf, h4.1, h4.2⟩
end Go.Proofs.YthnebhddakfadaaGreatDoor
namespace Go.Proofs.YthnebhddakfadaaGreatDoor
open Go.RowKit Go.Shelf
attribute [local go_sem] Oper.semAt_some

theorem grown_of_below {w w' : World} (h : Below w.heap.size w w') : w.grownBy w' none := ⟨h.os, h.tape, h.output, h.size, fun k hk _ => h.block k hk⟩

/-- The mark that a range over a function leaves. -/
def markOf (D : Nat) : Deferred := { target := .collected D, args := #[] }
/-- Blocks that await deferred calls, and have none; no two are one. -/
structure Marks (B : Nat) (W : World) (Ds : List Nat) : Prop where
  nodup : Ds.Nodup
  far : ∀ D ∈ Ds, B ≤ D
  each : ∀ D ∈ Ds, W.heap[D]? = some (.deferred (some []))
theorem Marks.nil (B : Nat) (W : World) : Marks B W [] := ⟨List.nodup_nil, (fun _ h => by cases h), (fun _ h => by cases h)⟩
/-- w' is as w was, but for blocks that are no cells and lie at or beyond B. -/
structure Shut (B : Nat) (w w' : World) : Prop where
  os : w'.os = w.os
  tape : w'.tape = w.tape
  output : w'.output = w.output
  size : w.heap.size = w'.heap.size
  block : ∀ k o, w.heap[k]? = some o → k < B ∨ o.isCells = true → w'.heap[k]? = some o
theorem Shut.refl (B : Nat) (w : World) : Shut B w w := ⟨rfl, rfl, rfl, rfl, fun _ _ h _ => h⟩
theorem Shut.below {B : Nat} {w w' : World} (h : Shut B w w') (hB : B ≤ w.heap.size) : Below B w w' :=
  ⟨h.os, h.tape, h.output, Nat.le_of_eq h.size, fun k hk => by
    have : w.heap[k]? = some w.heap[k] := Array.getElem?_eq_getElem (by omega)
    rw [this]
    exact h.block k _ this (.inl hk)⟩
theorem Shut.own {B : Nat} {w w' : World} (h : Shut B w w') {b t k n : Nat} {v : Value} {xs : List Value} (ho : w.ownsRow b t k v n xs) : w'.ownsRow b t k v n xs := by
  rcases ho.2 with h0 | ⟨g, cap, cur, e, h1, h2, r⟩
  · exact ⟨ho.1, .inl h0⟩
  · exact ⟨ho.1, .inr ⟨g, cap, cur, e, h1, h.block g _ h2 (.inr rfl), r⟩⟩
set_option maxHeartbeats 1000000 in
set_option maxRecDepth 100000 in
theorem chunk_any (ao : Option Addr) (n c : Nat) (w : World) :
    Calls Tryz.prog 102 #[.slice ao n c, .int .i64 4096] w fun e w' => e = .returned (.func (.func 149) #[] #[.pointer (some ⟨w.heap.size, 0, none⟩), .pointer (some ⟨w.heap.size + 1, 0, none⟩)]) ∧ w' = (w.alloc (.cells #[.slice ao n c] 25)).alloc (.cells #[.int .i64 4096] 3) := by
  go_enter Tryz.func102, Tryz.ntmps102
  go_wp2
  go_ret
  exact ⟨rfl, rfl⟩
/-- How many chunks, how many bytes the k-th has, where it lies. -/
def cnt (n : Nat) : Nat := (n + 4095) / 4096
def gl (n k : Nat) : Nat := min 4096 (n - 4096 * k)
def cka : Option Addr → Nat → Option Addr
  | some ⟨b, off, none⟩, k => some ⟨b, off + 4096 * k, none⟩
  | o, _ => o
/-- What the iterator wants kept: its two boxes. -/
def KpC (s t : Nat) (W W' : World) : Prop := (∀ v, W.cell? ⟨s, 0, none⟩ = some v → W'.cell? ⟨s, 0, none⟩ = some v) ∧ (∀ v, W.cell? ⟨t, 0, none⟩ = some v → W'.cell? ⟨t, 0, none⟩ = some v)
theorem KpC.t {s t : Nat} {A B C : World} (h : KpC s t A B) (k : KpC s t B C) : KpC s t A C := ⟨fun v hv => k.1 v (h.1 v hv), fun v hv => k.2 v (h.2 v hv)⟩
theorem KpC.b {s t : Nat} {w : World} (W : World) (l : Nat) (o o' : Obj) (_ : w.heap.size ≤ l) (h : W.heap[l]? = some o) (ho : o.isCells = false) (_ : o.isWalk = false) : KpC s t W (W.putObj l o') :=
  ⟨fun _ hv => cell_kept hv (grownBy_putObj' W l o') (fun r e => by cases e; exact ⟨o, h, ho⟩), fun _ hv => cell_kept hv (grownBy_putObj' W l o') (fun r e => by cases e; exact ⟨o, h, ho⟩)⟩
set_option maxHeartbeats 4000000 in
set_option maxRecDepth 100000 in
theorem chunk1_in (nn : Nat) (hn : 1 ≤ nn) (l Bs Bn b off n c : Nat) (hn1 : 1 ≤ n) (hnm : n ≤ 140737488355328) (hc : n ≤ c) (J Jx : List Nat → World → Prop) (W : World)
    (hJ : AbidesFrom W.heap.size J)
    (hY : ∀ pre x W1, J pre W1 → pre.length < cnt n → YieldAt Fence.wide (nn - 1) Tryz.prog l #[.slice (some ⟨b, off + 4096 * x, none⟩) (gl n x) (gl n x)] W1 fun e W' =>
      (e = .returned (.bool true) ∧ J (pre ++ [x]) W' ∧ KpC Bs Bn W1 W') ∨ (e = .returned (.bool false) ∧ Jx (pre ++ [x]) W'))
    (hBs : W.cell? ⟨Bs, 0, none⟩ = some (.slice (some ⟨b, off, none⟩) n c)) (hBn : W.cell? ⟨Bn, 0, none⟩ = some (.int .i64 4096)) (h0 : J [] W) :
    CallsIn Fence.wide nn Tryz.prog 149 #[.func (.yield l) #[] #[], .pointer (some ⟨Bs, 0, none⟩), .pointer (some ⟨Bn, 0, none⟩)] W fun e W' => (∃ v, e = .returned v) ∧
      ((∃ ys, ys = List.range (cnt n) ∧ J ys W') ∨ (∃ pre, (∃ k, k ≤ cnt n ∧ pre = List.range k) ∧ Jx pre W')) := by
  have HJ := keep hJ
  have HY := keep hY
  have H0 := keep h0
  clear hJ hY h0
  refine callsIn_of_wp Tryz.func149 rfl trivial ?_ rfl
  simp only [Tryz.ntmps149, List.size_toArray, List.length_cons, List.length_nil, Nat.reduceAdd, Nat.reduceSub, Array.replicate_succ, Array.replicate_zero, List.push_toArray, List.append_toArray, List.nil_append, List.cons_append]
  gi_wp2
  gi_loopw [4] (fun i wr => ∃ k : Nat, k ≤ cnt n ∧ i = .int .i64 ((4096 * k : Nat) : Int) ∧ wr.cell? ⟨Bs, 0, none⟩ = some (.slice (some ⟨b, off, none⟩) n c) ∧ wr.cell? ⟨Bn, 0, none⟩ = some (.int .i64 4096) ∧ Hid (J (List.range k) wr)) (fun i _ => n + 4096 - (intOf i).toNat)
  case atStart => exact ⟨0, by omega, rfl, hBs, hBn, H0.out⟩
  case round =>
    clear hBs hBn H0
    obtain ⟨k, hk, rfl, c1, c2, hJk⟩ := hrel
    have HK : Hid (k ≤ (n + 4095) / 4096) := hk
    clear hk
    by_cases hlt : 4096 * k < n
    · have JD : Hid (J (List.range k) wr.drew) := HJ.out (List.range k) wr wr.drew none hJk.out (grown_of_below (Below.refl _ _).drew) (fun r e => by cases e)
      obtain ⟨fn, tmps, assign, body, hy, hR⟩ := HY.out _ k wr.drew JD.out (by rw [List.length_range]; show k < (n + 4095) / 4096; omega)
      obtain ⟨q, hq⟩ : ∃ q, 4096 * k = q := ⟨_, rfl⟩
      have HQ := keep hq
      have HG : Hid (gl n k = min 4096 (n - q)) := by show _ = _; rw [← hq]; rfl
      rw [HG.out] at hy
      rw [hq] at hlt hy ⊢
      have HYY := keep hy
      clear hq hy HG
      have ll : (q : Int) < (n : Int) := by omega
      have ll0 : (0 : Int) ≤ (q : Int) := by omega
      have nc : ¬ c = q := by omega
      have nq : ¬ n < q := by omega
      have sw : IntKind.i64.wrap ((q : Int) + 4096) = (q : Int) + 4096 := wrap_small _ (by omega) (by omega)
      have CC : Hid (∀ w', Below wr.heap.size wr w' → w'.cell? ⟨Bs, 0, none⟩ = some (.slice (some ⟨b, off, none⟩) n c) ∧ w'.cell? ⟨Bn, 0, none⟩ = some (.int .i64 4096)) := fun w' hb => ⟨below_cell hb c1, below_cell hb c2⟩
      obtain ⟨d1, d2⟩ := CC.out _ (Below.refl wr.heap.size wr).drew
      by_cases h8 : n - q < 4096
      · have h8i : ((n - q : Nat) : Int) < 4096 := by omega
        have e1 : (q : Int) + ((n - q : Nat) : Int) = (n : Int) := by omega
        have e2 : IntKind.i64.wrap (n : Int) = (n : Int) := wrap_small _ (by omega) (by omega)
        have e3 : min 4096 (n - q) = n - q := by omega
        have hy := HYY.out
        rw [e3] at hy
        clear e3 HYY
        gi_wp2_with fail
        rw [wpIn_wide]
        refine wp_region_held_drew (S := fun w' => Below wr.heap.size wr w') (by kernel_rfl) ((Below.refl _ _).drew) (fun hHeld => ?_)
        refine takeH (i := 0) 13 (v := .int .i64 4096) rfl rfl (by kernel_rfl) (by kernel_rfl) (by kernel_rfl) (fun _ _ _ h => h) (Or.inl ⟨by rfl, ?_⟩) (by assumption) ?_
        · intro w' hSw'
          obtain ⟨d0, d1⟩ := CC.out w' hSw'
          go_simp
        simp only [Act.put, List.setIfInBounds_toArray, List.set_cons_zero, List.set_cons_succ]
        refine takeH (i := 1) 14 (v := .slice (some ⟨b, off, none⟩) n c) rfl rfl (by kernel_rfl) (by kernel_rfl) (by kernel_rfl) (fun _ _ _ h => h) (Or.inl ⟨by rfl, ?_⟩) (by assumption) ?_
        · intro w' hSw'
          obtain ⟨d0, d1⟩ := CC.out w' hSw'
          go_simp
        simp only [Act.put, List.setIfInBounds_toArray, List.set_cons_zero, List.set_cons_succ]
        refine takeH (i := 2) 15 (v := .int .i64 (q : Int)) rfl rfl (by kernel_rfl) (by kernel_rfl) (by kernel_rfl) (fun _ _ _ h => h) (Or.inl ⟨by rfl, ?_⟩) (by assumption) ?_
        · intro w' hSw'
          go_simp
        simp only [Act.put, List.setIfInBounds_toArray, List.set_cons_zero, List.set_cons_succ]
        refine takeH (i := 3) 16 (v := .slice (some ⟨b, off + q, none⟩) (n - q) (c - q)) rfl rfl (by kernel_rfl) (by kernel_rfl) (by kernel_rfl) (fun _ _ _ h => h) (Or.inl ⟨by rfl, ?_⟩) (by assumption) ?_
        · intro w' hSw'
          go_simp
        simp only [Act.put, List.setIfInBounds_toArray, List.set_cons_zero, List.set_cons_succ]
        refine takeH (i := 4) 17 (v := .int .i64 ((n - q : Nat) : Int)) rfl rfl (by kernel_rfl) (by kernel_rfl) (by kernel_rfl) (fun _ _ _ h => h) (Or.inl ⟨by rfl, ?_⟩) (by assumption) ?_
        · intro w' hSw'
          go_simp
        simp only [Act.put, List.setIfInBounds_toArray, List.set_cons_zero, List.set_cons_succ]
        refine takeH (i := 5) 18 (v := .int .i64 ((n - q : Nat) : Int)) rfl rfl (by kernel_rfl) (by kernel_rfl) (by kernel_rfl) (fun _ _ _ h => h) (Or.inl ⟨by rfl, ?_⟩) (by assumption) ?_
        · intro w' hSw'
          go_simp
          all_goals first | omega | (rw [Int.min_def]; split <;> omega)
        simp only [Act.put, List.setIfInBounds_toArray, List.set_cons_zero, List.set_cons_succ]
        refine takeH (i := 6) 5 (v := .int .i64 ((n - q : Nat) : Int)) rfl rfl (by kernel_rfl) (by kernel_rfl) (by kernel_rfl) (fun _ _ _ h => h) (Or.inl ⟨by rfl, ?_⟩) (by assumption) ?_
        · intro w' hSw'
          go_simp
        simp only [Act.put, List.setIfInBounds_toArray, List.set_cons_zero, List.set_cons_succ]
        refine wpAnyH_done (by kernel_rfl) ?_ _
        gi_wp2_with fail
        refine hR.mono ?_
        rintro e W3 (⟨rfl, hJ3, hk3⟩ | ⟨rfl, hJx3⟩)
        · have hJ4 : Hid (J (List.range (k + 1)) W3) := by show J _ _; rw [List.range_succ]; exact hJ3
          have hc3 := hk3.1 _ d1
          have hc4 := hk3.2 _ d2
          clear hJ3 hk3 JD hJk
          gi_wp2
          go_roundw
          case rel => exact ⟨k + 1, by show _ ≤ (n + 4095) / 4096; have := HQ.out; omega, by have := HQ.out; first | go_num | (congr 1; omega), hc3, hc4, hJ4⟩
          case measure => simp [intOf]; omega
        · gi_wp2
          refine bodyPost_ret (results_none rfl _ _ _) rfl ?_
          exact ⟨⟨_, rfl⟩, .inr ⟨_, ⟨k + 1, by show _ ≤ (n + 4095) / 4096; have := HQ.out; omega, List.range_succ.symm⟩, hJx3⟩⟩
      · have h8i : ¬ ((n - q : Nat) : Int) < 4096 := by omega
        have e3 : min 4096 (n - q) = 4096 := by omega
        have e4 : (q : Int) + 4096 ≤ (n : Int) := by omega
        have e5 : (q : Int) + 4096 ≤ (c : Int) := by omega
        have e6 : (0 : Int) ≤ (q : Int) + 4096 := by omega
        have e7 : (q : Int) ≤ (q : Int) + 4096 := by omega
        have hy := HYY.out
        rw [e3] at hy
        clear e3 HYY
        gi_wp2_with fail
        rw [wpIn_wide]
        refine wp_region_held_drew (S := fun w' => Below wr.heap.size wr w') (by kernel_rfl) ((Below.refl _ _).drew) (fun hHeld => ?_)
        refine takeH (i := 0) 13 (v := .int .i64 4096) rfl rfl (by kernel_rfl) (by kernel_rfl) (by kernel_rfl) (fun _ _ _ h => h) (Or.inl ⟨by rfl, ?_⟩) (by assumption) ?_
        · intro w' hSw'
          obtain ⟨d0, d1⟩ := CC.out w' hSw'
          go_simp
        simp only [Act.put, List.setIfInBounds_toArray, List.set_cons_zero, List.set_cons_succ]
        refine takeH (i := 1) 14 (v := .slice (some ⟨b, off, none⟩) n c) rfl rfl (by kernel_rfl) (by kernel_rfl) (by kernel_rfl) (fun _ _ _ h => h) (Or.inl ⟨by rfl, ?_⟩) (by assumption) ?_
        · intro w' hSw'
          obtain ⟨d0, d1⟩ := CC.out w' hSw'
          go_simp
        simp only [Act.put, List.setIfInBounds_toArray, List.set_cons_zero, List.set_cons_succ]
        refine takeH (i := 2) 15 (v := .int .i64 (q : Int)) rfl rfl (by kernel_rfl) (by kernel_rfl) (by kernel_rfl) (fun _ _ _ h => h) (Or.inl ⟨by rfl, ?_⟩) (by assumption) ?_
        · intro w' hSw'
          go_simp
        simp only [Act.put, List.setIfInBounds_toArray, List.set_cons_zero, List.set_cons_succ]
        refine takeH (i := 3) 16 (v := .slice (some ⟨b, off + q, none⟩) (n - q) (c - q)) rfl rfl (by kernel_rfl) (by kernel_rfl) (by kernel_rfl) (fun _ _ _ h => h) (Or.inl ⟨by rfl, ?_⟩) (by assumption) ?_
        · intro w' hSw'
          go_simp
        simp only [Act.put, List.setIfInBounds_toArray, List.set_cons_zero, List.set_cons_succ]
        refine takeH (i := 4) 17 (v := .int .i64 ((n - q : Nat) : Int)) rfl rfl (by kernel_rfl) (by kernel_rfl) (by kernel_rfl) (fun _ _ _ h => h) (Or.inl ⟨by rfl, ?_⟩) (by assumption) ?_
        · intro w' hSw'
          go_simp
        simp only [Act.put, List.setIfInBounds_toArray, List.set_cons_zero, List.set_cons_succ]
        refine takeH (i := 5) 18 (v := .int .i64 4096) rfl rfl (by kernel_rfl) (by kernel_rfl) (by kernel_rfl) (fun _ _ _ h => h) (Or.inl ⟨by rfl, ?_⟩) (by assumption) ?_
        · intro w' hSw'
          go_simp
          first | (intro hx; omega) | omega | (rw [Int.min_def]; split <;> omega)
        simp only [Act.put, List.setIfInBounds_toArray, List.set_cons_zero, List.set_cons_succ]
        refine takeH (i := 6) 5 (v := .int .i64 4096) rfl rfl (by kernel_rfl) (by kernel_rfl) (by kernel_rfl) (fun _ _ _ h => h) (Or.inl ⟨by rfl, ?_⟩) (by assumption) ?_
        · intro w' hSw'
          go_simp
        simp only [Act.put, List.setIfInBounds_toArray, List.set_cons_zero, List.set_cons_succ]
        refine wpAnyH_done (by kernel_rfl) ?_ _
        gi_wp2_with fail
        refine hR.mono ?_
        rintro e W3 (⟨rfl, hJ3, hk3⟩ | ⟨rfl, hJx3⟩)
        · have hJ4 : Hid (J (List.range (k + 1)) W3) := by show J _ _; rw [List.range_succ]; exact hJ3
          have hc3 := hk3.1 _ d1
          have hc4 := hk3.2 _ d2
          clear hJ3 hk3 JD hJk
          gi_wp2
          go_roundw
          case rel => exact ⟨k + 1, by show _ ≤ (n + 4095) / 4096; have := HQ.out; omega, by have := HQ.out; first | go_num | (congr 1; omega), hc3, hc4, hJ4⟩
          case measure => simp [intOf]; omega
        · gi_wp2
          refine bodyPost_ret (results_none rfl _ _ _) rfl ?_
          exact ⟨⟨_, rfl⟩, .inr ⟨_, ⟨k + 1, by show _ ≤ (n + 4095) / 4096; have := HQ.out; omega, List.range_succ.symm⟩, hJx3⟩⟩
    · have ll : ¬ ((4096 * k : Nat) : Int) < (n : Int) := by omega
      have hke : k = cnt n := by have := HK.out; show k = (n + 4095) / 4096; omega
      have HKE := keep hke
      clear hke
      gi_wp2
      go_end0
      exact ⟨⟨_, rfl⟩, .inl (by rw [← HKE.out]; exact hJk.out)⟩
set_option maxHeartbeats 2000000 in
set_option maxRecDepth 100000 in
theorem chunk1_none (nn : Nat) (l Bs Bn c : Nat) (ao : Option Addr) (J Jx : List Nat → World → Prop) (W : World) (hBs : W.cell? ⟨Bs, 0, none⟩ = some (.slice ao 0 c)) (h0 : J [] W) :
    CallsIn Fence.wide nn Tryz.prog 149 #[.func (.yield l) #[] #[], .pointer (some ⟨Bs, 0, none⟩), .pointer (some ⟨Bn, 0, none⟩)] W fun e W' => (∃ v, e = .returned v) ∧
      ((∃ ys, ys = List.range (cnt 0) ∧ J ys W') ∨ (∃ pre, (∃ k, k ≤ cnt 0 ∧ pre = List.range k) ∧ Jx pre W')) := by
  have H0 := keep h0
  clear h0
  refine callsIn_of_wp Tryz.func149 rfl trivial ?_ rfl
  simp only [Tryz.ntmps149, List.size_toArray, List.length_cons, List.length_nil, Nat.reduceAdd, Nat.reduceSub, Array.replicate_succ, Array.replicate_zero, List.push_toArray, List.append_toArray, List.nil_append, List.cons_append]
  gi_wp2
  gi_loopw [4] (fun i wr => i = .int .i64 0 ∧ wr = W) (fun _ _ => 0)
  case atStart => exact ⟨rfl, rfl⟩
  case round =>
    obtain ⟨rfl, rfl⟩ := hrel
    gi_wp2
    go_end0
    exact ⟨⟨_, rfl⟩, .inl ⟨_, rfl, H0.out⟩⟩
theorem chunk_stops (nn : Nat) (hn : 1 ≤ nn) (Bs Bn : Nat) (ao : Option Addr) (n c : Nat) (l : List UInt8) (hnm : n ≤ 140737488355328) (w : World)
    (hBs : w.cell? ⟨Bs, 0, none⟩ = some (.slice ao n c)) (hBn : w.cell? ⟨Bn, 0, none⟩ = some (.int .i64 4096)) (hs : Src w ao n c l) :
    SeqStopsK Fence.wide nn Tryz.prog 149 #[.pointer (some ⟨Bs, 0, none⟩), .pointer (some ⟨Bn, 0, none⟩)] (fun x : Nat => #[.slice (cka ao x) (gl n x) (gl n x)]) (KpC Bs Bn) (fun ys => ys = List.range (cnt n)) (fun pre => ∃ k, k ≤ cnt n ∧ pre = List.range k) (cnt n) w := by
  intro l J Jx W hW hJ _ hY h0
  rcases Nat.eq_zero_or_pos n with hz | hp
  · subst hz
    exact chunk1_none nn l Bs Bn c ao J Jx W (below_cell hW hBs) h0
  · obtain ⟨b, off, rfl, _, _⟩ := hs.form hp
    exact chunk1_in nn hn l Bs Bn b off n c hp hnm hs.cap J Jx W hJ hY (below_cell hW hBs) (below_cell hW hBn) h0
end Go.Proofs.YthnebhddakfadaaGreatDoor
