/- The walk of skip's seek. -/
/- The walk of skip's first. -/
/- The walk of skip's Get. -/
/- The walks of skip's New, Count, Size, All. -/
import Derived.Test.YtogphpejdnhnjaaGreatDoorJoinSe
import Derived.Deep.MidRow
import Derived.Deep.LoopGhost
import Derived.Laws.ResultCell
namespace Go.Proofs.YtogphpejdnhnjaaGreatDoor
open Go.RowKit
open Sk (Ent)

theorem infoA : (Tryz.prog.info? 169).map (·.size) = some 12 := by kernel_rfl
def nils : Array Value := #[.pointer none, .pointer none, .pointer none, .pointer none, .pointer none, .pointer none, .pointer none, .pointer none, .pointer none, .pointer none, .pointer none, .pointer none]
def ptr (g : Nat) : Value := .pointer (some ⟨g, 0, none⟩)
/-- Between two levels: the array lies in block A, the answer's in block R; l levels are left. -/
structure Seek (w : World) (b : Nat) (ns : List Nd) (k A R l : Nat) (wr : World) : Prop where
  bel : Below w.heap.size w wr
  arr : ∃ c : Array Value, wr.heap[A]? = some (.cells c 169) ∧ c.size = 12 ∧ ∀ j, l ≤ j → j < 12 → c[j]? = some (ptr (blk b ns (lastAt ns j k)))
  res : wr.heap[R]? = some (.cells nils 169)
theorem Seek.next {w : World} {b : Nat} {ns : List Nd} {k A R l : Nat} {wr w' : World} (h : Seek w b ns k A R l wr) (hb : Below wr.heap.size wr w') : Seek w b ns k A R l w' := by
  obtain ⟨c, h1, h2, h3⟩ := h.arr
  exact ⟨h.bel.trans (hb.mono h.bel.size), ⟨c, (hb.block A (Array.getElem?_eq_some_iff.1 h1).1).trans h1, h2, h3⟩, (hb.block R (Array.getElem?_eq_some_iff.1 h.res).1).trans h.res⟩
theorem results_cell {fn : Func} {p : Tmp} {ty : TypeId} (h : fn.results = #[.cell p ty]) (tmps : Array Value) (P : Program) (w : World) :
    (results fn tmps).run P w = ((asAddr (tmps.getD p undef)).run P w).andThen fun a w₁ => (loadVar ty a).run P w₁ := by
  simp only [results, h]
  simp [Sem.run_bind, Result.andThen]
theorem below_setCells {B : Nat} {w0 : World} {b : Nat} : ∀ {w : World}, Below B w0 w → B ≤ b → ∀ (vs : List Value) (o : Nat), Below B w0 (w.setCells b o vs)
  | _, h, _, [], _ => h
  | _, h, hb, v :: vs, o => below_setCells (h.setCell (p := ⟨b, o, none⟩) hb v) hb vs (o + 1)
/-- One level more. -/
theorem Seek.lay {w : World} {b : Nat} {ns : List Nd} {k R i s : Nat} {wr : World} (h : Seek w b ns k (w.heap.size + 1) R (i + 1) wr) (hR : R ≠ w.heap.size + 1) (hi : i < 12) (hl : lastAt ns i k = s) : (∃ v, wr.cell? ⟨w.heap.size + 1, i, none⟩ = some v) ∧ wr.frozen? ⟨w.heap.size + 1, i, none⟩ = false ∧ Seek w b ns k (w.heap.size + 1) R i (wr.setCell ⟨w.heap.size + 1, i, none⟩ (ptr (blk b ns s))) := by
  obtain ⟨c, h1, h2, h3⟩ := h.arr
  refine ⟨⟨c[i]'(by omega), by rw [cell_of_row _ _ _ _ _ _ h1]; exact Array.getElem?_eq_getElem _⟩, by simp [World.frozen?, h1], h.bel.setCell (p := ⟨w.heap.size + 1, i, none⟩) (Nat.le_succ _) _, ⟨c.setIfInBounds i (ptr (blk b ns s)), set_row h1 i _, by simpa using h2, fun j hj hj2 => ?_⟩, (set_far _ _ hR).trans h.res⟩
  rw [Array.getElem?_setIfInBounds]
  split
  · rename_i e
    subst e
    rw [if_pos (by omega), hl]
  · exact h3 j (by omega) hj2
set_option maxHeartbeats 4000000 in
set_option maxRecDepth 100000 in
theorem seek_two (p1 p2 b : Nat) (ns : List Nd) (P : Ent → Bool) (k : Nat) (w : World) (hC : Chain w b ns) (hk : Sk.Cut P (ns.map (·.x.e)) k)
    (hF : ∀ w' x, Below w.heap.size w w' → entKind.held w' x → Calls Tryz.prog 303 #[ev x, .pointer (some ⟨p1, 0, none⟩), .pointer (some ⟨p2, 0, none⟩)] w' fun e w'' => e = .returned (.bool (P x.e)) ∧ Below w'.heap.size w' w'') :
    Calls Tryz.prog 239 #[.pointer (some ⟨b, 0, none⟩), .func (.func 303) #[] #[.pointer (some ⟨p1, 0, none⟩), .pointer (some ⟨p2, 0, none⟩)]] w fun e w' => ∃ c : Array Value, e = .returned (.agg c) ∧ c.size = 12 ∧ (∀ j, j < 12 → c[j]? = some (ptr (blk b ns (lastAt ns j k)))) ∧ Below w.heap.size w w' := by
  have HC := keep hC
  have HCUT := keep hk
  have HF := keep hF
  clear hC hk hF
  obtain ⟨W1, hW1⟩ : ∃ W1, (w.alloc (.cells nils 169)).alloc (.cells nils 169) = W1 := ⟨_, rfl⟩
  have b1 : Hid (Below w.heap.size w W1) := by rw [← hW1]; exact ((Below.refl _ _).alloc (Nat.le_refl _) _).alloc (by simp) _
  have g0 : Hid (W1.heap[w.heap.size]? = some (.cells nils 169)) := by
    rw [← hW1]; exact (Below.heap_alloc _ _ _ (by simp)).trans (heap_alloc_new w _)
  have g1 : Hid (W1.heap[w.heap.size + 1]? = some (.cells nils 169)) := by
    have := heap_alloc_new (w.alloc (.cells nils 169)) (.cells nils 169)
    rw [World.size_alloc] at this
    rw [← hW1]; exact this
  have S0 : Hid (Seek w b ns k (w.heap.size + 1) w.heap.size 12 W1) := ⟨b1.out, ⟨nils, g1.out, rfl, fun j h1 h2 => absurd h2 (by omega)⟩, g0.out⟩
  unfold nils at hW1
  go_enter Tryz.func239, Tryz.ntmps239
  go_wp2_with fail
  clear hW1 b1 g0 g1
  go_loopw [6, 7] (fun p i wr => ∃ (l q : Nat), l ≤ 12 ∧ i = .int .i64 ((l : Int) - 1) ∧ p = .pointer (some ⟨blk b ns q, 0, none⟩) ∧ q ≤ k ∧ Hid (Seek w b ns k (w.heap.size + 1) w.heap.size l wr ∧ high ns (l - 1) q)) (fun _ i _ => ((intOf i) + 1).toNat)
  case atStart => exact ⟨12, 0, Nat.le_refl _, by first | rfl | go_num, rfl, Nat.zero_le _, S0.out, trivial⟩
  case round =>
    clear S0
    obtain ⟨l, q, hl, rfl, rfl, hqk, hI⟩ := hrel
    cases l with
    | zero =>
      rw [show ((0 : Nat) : Int) - 1 = -1 from rfl]
      obtain ⟨c, hc1, hc2, hc3⟩ := hI.out.1.arr
      have RA : Hid (wr.rangeAt (w.heap.size + 1) 0 c.toList) := fun j v hv => by
        rw [Nat.zero_add, cell_of_row _ _ _ _ _ _ hc1]
        simpa using hv
      have CL : Hid (c.toList.length = 12) := by show _ = _; simpa using hc2
      have TH : Hid (wr.there w.heap.size 0 c.toList.toArray.size) := fun j hj => by
        have hj' : j < 12 := by simpa [hc2] using hj
        refine ⟨?_, by simp [World.frozen?, hI.out.1.res]⟩
        rw [Nat.zero_add, cell_of_row _ _ _ _ _ _ hI.out.1.res]
        have : j < nils.size := hj'
        rw [Array.getElem?_eq_getElem this]
        rfl
      have ON : Hid (c.toList.toArray.all (·.oneCell') = true) := all_oneCell_toArray (fun v hv => by
        obtain ⟨j, hj⟩ := List.getElem?_of_mem hv
        have hj2 : c[j]? = some v := by simpa using hj
        have hj3 : j < 12 := by have := (Array.getElem?_eq_some_iff.1 hj2).1; omega
        rw [hc3 j (Nat.zero_le _) hj3] at hj2
        cases hj2
        rfl)
      have BL := keep hI.out.1.bel
      have C2 := keep hc2
      have C3 := keep hc3
      have C1 := keep hc1
      clear hc1 hc2 hc3 hI
      go_wp2_with (first
        | (refine wpList_load_mid rfl _ _ rfl _ _ rfl c.toList _ RA.out Tryz.underlying169 rfl (by rw [infoA, CL.out]) ?_)
        | (refine wpList_store_mid rfl _ _ _ rfl _ _ c.toList.toArray rfl rfl TH.out (by rw [infoA]; simp [C2.out]) ON.out ?_))
      have LV := run_loadVar_mid (P := Tryz.prog) (wr.setCells w.heap.size 0 c.toList.toArray.toList) w.heap.size 0 169 c.toList.toArray.toList _ (World.rangeAt_setCells_same _ _ _ _ (by simpa using TH.out)) Tryz.underlying169 rfl (by rw [infoA]; simp [C2.out])
      refine ⟨rfl, .agg c, ?_, c, rfl, C2.out, fun j hj => C3.out j (Nat.zero_le _) hj, below_setCells BL.out (Nat.le_refl _) _ _⟩
      have e2 : c.toList.toArray.toList = c.toList := by simp
      rw [e2, Array.toArray_toList] at LV
      rw [results_cell (p := 4) (ty := 169) rfl]
      exact LV
    | succ i =>
      have e1 : ((i + 1 : Nat) : Int) - 1 = (i : Int) := by omega
      rw [e1]
      have i0 : (0 : Int) ≤ (i : Int) := by omega
      have i12 : (i : Int) < 12 := by omega
      clear e1
      have HI12 : Hid (i < 12) := by show _ < _; omega
      go_wp2_with fail
      go_loopg [6] (k - q) (fun n p wq => ∃ (q : Nat), n = k - q ∧ p = .pointer (some ⟨blk b ns q, 0, none⟩) ∧ q ≤ k ∧ Hid (Seek w b ns k (w.heap.size + 1) w.heap.size (i + 1) wq ∧ high ns i q))
      case atStart => exact ⟨q, rfl, rfl, hqk, hI.out.1, hI.out.2⟩
      case round =>
        clear hI hqk
        obtain ⟨s, hgk, rfl, hsk, hJ⟩ := hrel
        have c0 := (HC.out.below hJ.out.1.bel).at_ hJ.out.2 HI12.out
        have HGK := keep hgk
        have HSK := keep hsk
        clear hgk hsk
        cases hx : nxtAt (ns.drop s) i with
        | none =>
          obtain ⟨hn1, hn2⟩ := nxt_none hx
          rw [hn1] at c0
          have hlast : Hid (lastAt ns i k = s) := lastAt_eq hJ.out.2 HSK.out (fun j m h1 h2 h3 => hn2 m (List.mem_of_getElem? (i := j - s) (by rw [List.getElem?_drop]; rw [show s + (j - s) = j by omega]; exact h3)))
          clear hx hn1 hn2
          obtain ⟨B, hB⟩ : ∃ B, blk b ns s = B := ⟨_, rfl⟩
          rw [hB] at c0 ⊢
          have HB := keep hB
          clear hB
          obtain ⟨⟨v0, f0⟩, f1, S3⟩ := hJ.out.1.lay (by omega) HI12.out hlast.out
          have S4 := keep S3
          rw [HB.out] at S4
          unfold ptr at S4
          have hw1 : IntKind.i64.wrap ((i : Int) - 1) = (i : Int) - 1 := wrap_small _ (by omega) (by omega)
          clear S3
          go_wp2
          go_roundw
          case rel => exact ⟨i, s, by omega, by first | rfl | go_num, by rw [HB.out], HSK.out, S4.out, high_less hJ.out.2 (by omega)⟩
          case measure => simp [intOf] <;> omega
        | some r =>
          obtain ⟨n, hn1, hn2, hn3, hn4⟩ := nxt_some hx
          rw [hn3] at c0
          rw [List.getElem?_drop] at hn1
          have hent := (HC.out.below hJ.out.1.bel).ents n (List.mem_of_getElem? hn1)
          have hcut := HCUT.out.2 (s + r) n.x.e (by rw [List.getElem?_map, hn1]; rfl)
          have FC := keep (HF.out wr n.x hJ.out.1.bel hent.2)
          obtain ⟨ng, nx, nh⟩ := n
          obtain ⟨xkp, xkc, xvp, xvc, xkey, xseq, xgone, xval⟩ := nx
          have q0 : wr.cell? ⟨ng, 0, none⟩ = some (.slice xkp xkey.length xkc) := hent.1 0 _ rfl
          have q1 : wr.cell? ⟨ng, 1, none⟩ = some (.int .i64 xseq) := hent.1 1 _ rfl
          have q2 : wr.cell? ⟨ng, 2, none⟩ = some (.bool xgone) := hent.1 2 _ rfl
          have q3 : wr.cell? ⟨ng, 3, none⟩ = some (.slice xvp xval.length xvc) := hent.1 3 _ rfl
          have HN1 := keep hn1
          have HN2 : Hid (i < nh) := hn2
          have HN4 := keep hn4
          obtain ⟨B, hB⟩ : ∃ B, blk b ns s = B := ⟨_, rfl⟩
          rw [hB] at c0 ⊢
          have HB := keep hB
          unfold ev at FC
          simp only at FC hcut c0
          clear hx hn1 hn2 hn3 hn4 hent hB
          cases hP : P ⟨xkey, xseq, xgone, xval⟩ with
          | true =>
            have hlt := hcut.1 hP
            rw [hP] at FC
            have HLT := keep hlt
            clear hP hcut hlt
            go_wp2_with fail
            refine FC.out.mono ?_
            rintro e w2 ⟨rfl, hb2⟩
            have S2 := keep (hJ.out.1.next hb2)
            have c2 := below_cell hb2 c0
            clear hb2 FC q0 q1 q2 q3 c0
            go_wp2
            go_roundg (k - (s + r + 1))
            case measure => have := HGK.out; have := HLT.out; have := HSK.out; omega
            case rel => exact ⟨s + r + 1, rfl, by simp only [blk, HN1.out], HLT.out, S2.out, ⟨⟨ng, ⟨xkp, xkc, xvp, xvc, ⟨xkey, xseq, xgone, xval⟩⟩, nh⟩, HN1.out, HN2.out⟩⟩
          | false =>
            have hge : ¬ s + r < k := fun h => by have := hcut.2 h; rw [hP] at this; cases this
            rw [hP] at FC
            have hlast : Hid (lastAt ns i k = s) := lastAt_eq hJ.out.2 HSK.out (fun j m h1 h2 h3 => HN4.out (j - s) m (by omega) (by rw [List.getElem?_drop]; rw [show s + (j - s) = j by omega]; exact h3))
            clear hP hcut hge
            go_wp2_with fail
            refine FC.out.mono ?_
            rintro e w2 ⟨rfl, hb2⟩
            have S2 := keep (hJ.out.1.next hb2)
            clear hb2 FC q0 q1 q2 q3 c0
            obtain ⟨⟨v0, f0⟩, f1, S3⟩ := S2.out.lay (by omega) HI12.out hlast.out
            have S4 := keep S3
            rw [HB.out] at S4
            unfold ptr at S4
            have hw1 : IntKind.i64.wrap ((i : Int) - 1) = (i : Int) - 1 := wrap_small _ (by omega) (by omega)
            clear S3
            go_wp2
            go_roundw
            case rel => exact ⟨i, s, by omega, by first | rfl | go_num, by rw [HB.out], HSK.out, S4.out, high_less hJ.out.2 (by omega)⟩
            case measure => simp [intOf] <;> omega
end Go.Proofs.YtogphpejdnhnjaaGreatDoor
namespace Go.Proofs.YtogphpejdnhnjaaGreatDoor
open Go.RowKit
open Sk (Ent)

theorem twelve {c : Array Value} (h : c.size = 12) : ∃ a0 a1 a2 a3 a4 a5 a6 a7 a8 a9 a10 a11, c = #[a0, a1, a2, a3, a4, a5, a6, a7, a8, a9, a10, a11] := by
  obtain ⟨l⟩ := c
  match l, h with
  | [a0, a1, a2, a3, a4, a5, a6, a7, a8, a9, a10, a11], _ => exact ⟨a0, a1, a2, a3, a4, a5, a6, a7, a8, a9, a10, a11, rfl⟩
/-- Every node is at least 1 high. -/
def Tall (ns : List Nd) : Prop := ∀ n ∈ ns, 0 < n.h
theorem last_all {ns : List Nd} (ht : Tall ns) : ∀ {k : Nat}, k ≤ ns.length → lastAt ns 0 k = k ∧ high ns 0 k
  | 0, _ => ⟨rfl, trivial⟩
  | k + 1, h => by
    obtain ⟨n, hn⟩ : ∃ n, ns[k]? = some n := ⟨ns[k]'(by omega), List.getElem?_eq_getElem _⟩
    have hp := ht n (List.mem_of_getElem? hn)
    exact ⟨by simp only [lastAt, hn]; rw [if_pos hp], n, hn, hp⟩
/-- The node at place k, if there is one. -/
def nodeAt (ns : List Nd) (k : Nat) : Value := match ns[k]? with | some n => .pointer (some ⟨n.g, 0, none⟩) | none => .pointer none
theorem nxt_all {ns : List Nd} (ht : Tall ns) (k : Nat) : nxt (ns.drop k) 0 = nodeAt ns k := by
  unfold nodeAt
  cases h : ns[k]? with
  | none =>
    have : ns.drop k = [] := List.drop_eq_nil_of_le (List.getElem?_eq_none_iff.1 h)
    rw [this]
    rfl
  | some n =>
    obtain ⟨hl, he⟩ := List.getElem?_eq_some_iff.1 h
    rw [List.drop_eq_getElem_cons hl, he]
    simp only [nxt]
    rw [if_pos (ht n (List.mem_of_getElem? h))]
theorem index0 (g : Nat) (a1 a2 a3 a4 a5 a6 a7 a8 a9 a10 a11 : Value) (w : World) : (Instr.index 169 (.agg #[.pointer (some ⟨g, 0, none⟩), a1, a2, a3, a4, a5, a6, a7, a8, a9, a10, a11]) (.int .i64 0)).run Tryz.prog w = .ok (.pointer (some ⟨g, 0, none⟩)) w := by
  simp [Instr.index, run_underlying Tryz.underlying169, asIntOf, go_sem]
set_option maxHeartbeats 1000000 in
set_option maxRecDepth 100000 in
theorem first_two (p1 p2 b : Nat) (ns : List Nd) (P : Ent → Bool) (k : Nat) (w : World) (hC : Chain w b ns) (ht : Tall ns) (hk : Sk.Cut P (ns.map (·.x.e)) k)
    (hF : ∀ w' x, Below w.heap.size w w' → entKind.held w' x → Calls Tryz.prog 303 #[ev x, .pointer (some ⟨p1, 0, none⟩), .pointer (some ⟨p2, 0, none⟩)] w' fun e w'' => e = .returned (.bool (P x.e)) ∧ Below w'.heap.size w' w'') :
    Calls Tryz.prog 304 #[.pointer (some ⟨b, 0, none⟩), .func (.func 303) #[] #[.pointer (some ⟨p1, 0, none⟩), .pointer (some ⟨p2, 0, none⟩)]] w fun e w' => e = .returned (nodeAt ns k) ∧ Below w.heap.size w w' := by
  have SK := keep (seek_two p1 p2 b ns P k w hC hk hF)
  have HC := keep hC
  have hkl : k ≤ ns.length := by have := hk.1; simpa using this
  obtain ⟨hla, hhi⟩ := last_all ht hkl
  have HHI := keep hhi
  have HLA := keep hla
  have HNA := keep (nxt_all ht k)
  clear hC hk hF hla hhi ht
  go_enter Tryz.func304, Tryz.ntmps304
  go_wp2_with fail
  refine SK.out.mono ?_
  rintro e w1 ⟨c, rfl, hc1, hc2, hb1⟩
  have h0 := hc2 0 (by decide)
  rw [HLA.out] at h0
  obtain ⟨a0, a1, a2, a3, a4, a5, a6, a7, a8, a9, a10, a11, rfl⟩ := twelve hc1
  have e0 : a0 = ptr (blk b ns k) := by simpa using h0
  subst e0
  have cn := (HC.out.below hb1).at_ HHI.out (by decide)
  rw [HNA.out] at cn
  have B1 := keep hb1
  obtain ⟨B, hB⟩ : ∃ B, blk b ns k = B := ⟨_, rfl⟩
  unfold ptr
  rw [hB] at cn ⊢
  have cn' : w1.cell? ⟨B, 4, none⟩ = some (nodeAt ns k) := cn
  obtain ⟨V, hV⟩ : ∃ V, nodeAt ns k = V := ⟨_, rfl⟩
  rw [hV] at cn'
  have HV := keep hV
  clear hc1 hc2 h0 hb1 SK hB cn hV
  have ix := index0 B a1 a2 a3 a4 a5 a6 a7 a8 a9 a10 a11 w1
  go_wp2
  go_ret
  exact ⟨by rw [HV.out]; rfl, B1.out⟩
end Go.Proofs.YtogphpejdnhnjaaGreatDoor
namespace Go.Proofs.YtogphpejdnhnjaaGreatDoor
open Go.RowKit
open Sk (Ent)

/-- The list's head lies in block b, its nodes are in order and each at least 1 high. -/
structure SMem (w : World) (b : Nat) (ns : List Nd) : Prop where
  chain : Chain w b ns
  tall : Tall ns
  up : Sk.Up (ns.map (·.x.e))
  short : ∀ n ∈ ns, n.x.e.key.length ≤ 64 ∧ n.x.e.val.length ≤ 1024
theorem SMem.below {w w' : World} {b : Nat} {ns : List Nd} (h : SMem w b ns) (hb : Below w.heap.size w w') : SMem w' b ns := ⟨h.chain.below hb, h.tall, h.up, h.short⟩
/-- No entry. -/
def evZ : EV := ⟨none, 0, none, 0, ⟨[], 0, false, []⟩⟩
/-- The place of a key and a number. -/
def place (ns : List Nd) (key : List UInt8) (s : Int) : Nat := Sk.count (Sk.aheadOf key s) (ns.map (·.x.e))
/-- The node at that place, if it is of the key. -/
def hit (ns : List Nd) (key : List UInt8) (s : Int) : Option Nd := match ns[place ns key s]? with | some n => if n.x.e.key = key then some n else none | none => none
set_option maxHeartbeats 2000000 in
set_option maxRecDepth 100000 in
theorem get_none (b : Nat) (ns : List Nd) (kp : Option Addr) (kc : Nat) (key : List UInt8) (s : Int) (w : World) (h : SMem w b ns) (hs : Src w kp key.length kc key) (hx : hit ns key s = none) :
    Calls Tryz.prog 254 #[.pointer (some ⟨b, 0, none⟩), .slice kp key.length kc, .int .i64 s] w fun e w' => e = .returned (.tuple #[ev evZ, .bool false]) ∧ Below w.heap.size w w' := by
  obtain ⟨W1, hW1⟩ : ∃ W1, w.alloc (.cells #[.slice none 0 0, .int .i64 0, .bool false, .slice none 0 0] 131) = W1 := ⟨_, rfl⟩
  have b1 : Hid (Below w.heap.size w W1) := by rw [← hW1]; exact (Below.refl _ _).alloc (Nat.le_refl _) _
  have g1 : Hid (W1.heap[w.heap.size]? = some (.cells #[.slice none 0 0, .int .i64 0, .bool false, .slice none 0 0] 131)) := by rw [← hW1]; exact heap_alloc_new w _
  have AO := keep (aheadOf_any kp key.length kc s W1)
  have HM := keep (h.below b1.out)
  have HS := keep (hs.below b1.out)
  clear h hs
  go_enter Tryz.func254, Tryz.ntmps254
  go_wp2_with fail
  refine AO.out.mono ?_
  rintro e w2 ⟨rfl, hw2⟩
  have B2 : Hid (Below W1.heap.size W1 w2) := by rw [hw2]; exact ((Below.refl _ _).alloc (Nat.le_refl _) _).alloc (by simp) _
  have AI : Hid (AheadIn w2 W1.heap.size (W1.heap.size + 1) key s) := by
    refine ⟨kp, kc, HS.out.below B2.out, ?_, ?_⟩
    · rw [hw2]
      exact cell_of_row _ _ _ _ _ _ ((Below.heap_alloc _ _ _ (by simp)).trans (heap_alloc_new W1 _))
    · have := heap_alloc_new (W1.alloc (.cells #[.slice kp key.length kc] 47)) (.cells #[.int .i64 s] 3)
      rw [World.size_alloc] at this
      rw [hw2]
      exact cell_of_row _ _ _ _ _ _ this
  have FI := keep (first_two W1.heap.size (W1.heap.size + 1) b ns (Sk.aheadOf key s) (place ns key s) w2 (HM.out.below B2.out).chain HM.out.tall (Sk.cut_count (Sk.ahead_down key s) HM.out.up) (fun w' x hb hh => ahead_any _ _ key s x w' (AI.out.below hb) hh))
  clear hw2 AO
  go_wp2_with fail
  refine FI.out.mono ?_
  rintro e w3 ⟨rfl, hb3⟩
  have B3 := keep (B2.out.trans (hb3.mono B2.out.size))
  have M3 := keep (HM.out.below B3.out)
  have S3 := keep (HS.out.below B3.out)
  have G3 : Hid (w3.heap[w.heap.size]? = some (.cells #[.slice none 0 0, .int .i64 0, .bool false, .slice none 0 0] 131)) := (B3.out.block _ (by rw [← hW1]; simp)).trans g1.out
  have BL := keep (b1.out.trans (B3.out.mono b1.out.size))
  have r0 : w3.cell? ⟨w.heap.size, 0, none⟩ = some (.slice none 0 0) := cell_of_row _ _ _ _ _ _ G3.out
  have r1 : w3.cell? ⟨w.heap.size, 1, none⟩ = some (.int .i64 0) := cell_of_row _ _ _ _ _ _ G3.out
  have r2 : w3.cell? ⟨w.heap.size, 2, none⟩ = some (.bool false) := cell_of_row _ _ _ _ _ _ G3.out
  have r3 : w3.cell? ⟨w.heap.size, 3, none⟩ = some (.slice none 0 0) := cell_of_row _ _ _ _ _ _ G3.out
  have f0 : w3.frozen? ⟨w.heap.size, 0, none⟩ = false := by simp [World.frozen?, G3.out]
  have f1 : w3.frozen? ⟨w.heap.size, 1, none⟩ = false := by simp [World.frozen?, G3.out]
  have f2 : w3.frozen? ⟨w.heap.size, 2, none⟩ = false := by simp [World.frozen?, G3.out]
  have f3 : w3.frozen? ⟨w.heap.size, 3, none⟩ = false := by simp [World.frozen?, G3.out]
  clear hb3 FI hW1
  unfold hit at hx
  unfold nodeAt
  cases hn : ns[place ns key s]? with
  | none =>
    clear hx hn
    simp only
    go_wp2
    refine ⟨rfl, .tuple #[ev evZ, .bool false], ?_, rfl, ?_⟩
    · have s0 : (w3.setCell ⟨w.heap.size, 0, none⟩ (.slice none 0 0)).cell? ⟨w.heap.size, 0, none⟩ = some (.slice none 0 0) := World.cell?_setCell_same' _ _ _ (by simp [go_sem, r0])
      have s1 : ((w3.setCell ⟨w.heap.size, 0, none⟩ (.slice none 0 0)).setCell ⟨w.heap.size, 1, none⟩ (.int .i64 0)).cell? ⟨w.heap.size, 1, none⟩ = some (.int .i64 0) := World.cell?_setCell_same' _ _ _ (by simp [go_sem, r1])
      have s2 : (((w3.setCell ⟨w.heap.size, 0, none⟩ (.slice none 0 0)).setCell ⟨w.heap.size, 1, none⟩ (.int .i64 0)).setCell ⟨w.heap.size, 2, none⟩ (.bool false)).cell? ⟨w.heap.size, 2, none⟩ = some (.bool false) := World.cell?_setCell_same' _ _ _ (by simp [go_sem, r2])
      have s3 : ((((w3.setCell ⟨w.heap.size, 0, none⟩ (.slice none 0 0)).setCell ⟨w.heap.size, 1, none⟩ (.int .i64 0)).setCell ⟨w.heap.size, 2, none⟩ (.bool false)).setCell ⟨w.heap.size, 3, none⟩ (.slice none 0 0)).cell? ⟨w.heap.size, 3, none⟩ = some (.slice none 0 0) := World.cell?_setCell_same' _ _ _ (by simp [go_sem, r3])
      simp [results, Tryz.f254, go_sem, loadCells, loadCellsFrom, s0, s1, s2, s3, ev, evZ]
    · exact ((((BL.out.setCell (p := ⟨w.heap.size, 0, none⟩) (Nat.le_refl _) _).setCell (p := ⟨w.heap.size, 1, none⟩) (Nat.le_refl _) _).setCell (p := ⟨w.heap.size, 2, none⟩) (Nat.le_refl _) _).setCell (p := ⟨w.heap.size, 3, none⟩) (Nat.le_refl _) _)
  | some n =>
    rw [hn] at hx
    simp only at hx
    have hk : ¬ n.x.e.key = key := fun e => by rw [if_pos e] at hx; cases hx
    have hent := M3.out.chain.ents n (List.mem_of_getElem? hn)
    obtain ⟨ng, ⟨xkp, xkc, xvp, xvc, ⟨xkey, xseq, xgone, xval⟩⟩, nh⟩ := n
    have q0 : w3.cell? ⟨ng, 0, none⟩ = some (.slice xkp xkey.length xkc) := hent.1 0 _ rfl
    have EQ := keep (equal_any xkp xkey.length xkc xkey kp key.length kc key w3 hent.2.1 S3.out)
    rw [decide_eq_false hk] at EQ
    clear hx hn hk hent
    simp only
    go_wp2_with fail
    refine EQ.out.mono ?_
    rintro e w4 ⟨rfl, rfl⟩
    go_wp2
    refine ⟨rfl, .tuple #[ev evZ, .bool false], ?_, rfl, ?_⟩
    · have s0 : (w4.setCell ⟨w.heap.size, 0, none⟩ (.slice none 0 0)).cell? ⟨w.heap.size, 0, none⟩ = some (.slice none 0 0) := World.cell?_setCell_same' _ _ _ (by simp [go_sem, r0])
      have s1 : ((w4.setCell ⟨w.heap.size, 0, none⟩ (.slice none 0 0)).setCell ⟨w.heap.size, 1, none⟩ (.int .i64 0)).cell? ⟨w.heap.size, 1, none⟩ = some (.int .i64 0) := World.cell?_setCell_same' _ _ _ (by simp [go_sem, r1])
      have s2 : (((w4.setCell ⟨w.heap.size, 0, none⟩ (.slice none 0 0)).setCell ⟨w.heap.size, 1, none⟩ (.int .i64 0)).setCell ⟨w.heap.size, 2, none⟩ (.bool false)).cell? ⟨w.heap.size, 2, none⟩ = some (.bool false) := World.cell?_setCell_same' _ _ _ (by simp [go_sem, r2])
      have s3 : ((((w4.setCell ⟨w.heap.size, 0, none⟩ (.slice none 0 0)).setCell ⟨w.heap.size, 1, none⟩ (.int .i64 0)).setCell ⟨w.heap.size, 2, none⟩ (.bool false)).setCell ⟨w.heap.size, 3, none⟩ (.slice none 0 0)).cell? ⟨w.heap.size, 3, none⟩ = some (.slice none 0 0) := World.cell?_setCell_same' _ _ _ (by simp [go_sem, r3])
      simp [results, Tryz.f254, go_sem, loadCells, loadCellsFrom, s0, s1, s2, s3, ev, evZ]
    · exact ((((BL.out.setCell (p := ⟨w.heap.size, 0, none⟩) (Nat.le_refl _) _).setCell (p := ⟨w.heap.size, 1, none⟩) (Nat.le_refl _) _).setCell (p := ⟨w.heap.size, 2, none⟩) (Nat.le_refl _) _).setCell (p := ⟨w.heap.size, 3, none⟩) (Nat.le_refl _) _)
end Go.Proofs.YtogphpejdnhnjaaGreatDoor
namespace Go.Proofs.YtogphpejdnhnjaaGreatDoor
open Go.RowKit
open Sk (Ent)

def listZ : Array Value := #[.slice none 0 0, .int .i64 0, .bool false, .slice none 0 0, .pointer none, .pointer none, .pointer none, .pointer none, .pointer none, .pointer none, .pointer none, .pointer none, .pointer none, .pointer none, .pointer none, .pointer none, .int .i64 0, .int .i64 0]
set_option maxHeartbeats 1000000 in
set_option maxRecDepth 100000 in
theorem skip_raw (w : World) : Calls Tryz.prog 34 #[] w fun e w' => e = .returned (.pointer (some ⟨w.heap.size, 0, none⟩)) ∧ w' = w.alloc (.cells listZ 173) := by
  unfold listZ
  go_enter Tryz.func34, Tryz.ntmps34
  go_wp2
  go_ret
  exact ⟨rfl, rfl⟩
theorem skip_mem (w : World) : SMem (w.alloc (.cells listZ 173)) w.heap.size [] := by
  refine ⟨⟨fun j hj => ?_, fun i n hn => by simp at hn, fun n hn => by cases hn⟩, (fun n hn => by cases hn), trivial, (fun n hn => by cases hn)⟩
  rw [cell_of_row _ _ _ _ _ _ (heap_alloc_new w _)]
  have : j = 0 ∨ j = 1 ∨ j = 2 ∨ j = 3 ∨ j = 4 ∨ j = 5 ∨ j = 6 ∨ j = 7 ∨ j = 8 ∨ j = 9 ∨ j = 10 ∨ j = 11 := by omega
  rcases this with rfl | rfl | rfl | rfl | rfl | rfl | rfl | rfl | rfl | rfl | rfl | rfl <;> rfl
end Go.Proofs.YtogphpejdnhnjaaGreatDoor
