/- The walks of slices.Chunk and of its iterator. -/
/- The walks of slices.AppendSeq and Collect over groups of entries. -/
import Derived.Test.YtjblicgbdecbcaaGreatZQ2
import Derived.Test.YtjblicgbdecbcaaGreatZB3j
namespace Go.Proofs.YtjblicgbdecbcaaGreat
open Go.RowKit Go.Shelf
open Sk (Ent)
attribute [local go_sem] Oper.semAt_some

set_option maxHeartbeats 1000000 in
set_option maxRecDepth 100000 in
theorem chunk_any (ao : Option Addr) (n c : Nat) (w : World) :
    Calls Tryz.prog 24 #[.slice ao n c, .int .i64 8] w fun e w' => e = .returned (.func (.func 54) #[] #[.pointer (some ⟨w.heap.size, 0, none⟩), .pointer (some ⟨w.heap.size + 1, 0, none⟩)]) ∧ w' = (w.alloc (.cells #[.slice ao n c] 22)).alloc (.cells #[.int .i64 8] 3) := by
  go_enter Tryz.func24, Tryz.ntmps24
  go_wp2
  go_ret
  exact ⟨rfl, rfl⟩
/-- How many entries the k-th group has. -/
def gl (n k : Nat) : Nat := min 8 (n - 8 * k)
/-- What the iterator wants kept: its two boxes. -/
def KpC (Bs Bn : Nat) (W W' : World) : Prop := (∀ v, W.cell? ⟨Bs, 0, none⟩ = some v → W'.cell? ⟨Bs, 0, none⟩ = some v) ∧ (∀ v, W.cell? ⟨Bn, 0, none⟩ = some v → W'.cell? ⟨Bn, 0, none⟩ = some v)
theorem KpC.t {Bs Bn : Nat} {A B C : World} (h : KpC Bs Bn A B) (k : KpC Bs Bn B C) : KpC Bs Bn A C := ⟨fun v hv => k.1 v (h.1 v hv), fun v hv => k.2 v (h.2 v hv)⟩
theorem KpC.b {Bs Bn : Nat} {w : World} (W : World) (l : Nat) (o o' : Obj) (_ : w.heap.size ≤ l) (h : W.heap[l]? = some o) (ho : o.isCells = false) (_ : o.isWalk = false) : KpC Bs Bn W (W.putObj l o') :=
  ⟨fun v hv => cell_kept hv (grownBy_putObj' W l o') (fun r e => by cases e; exact ⟨o, h, ho⟩), fun v hv => cell_kept hv (grownBy_putObj' W l o') (fun r e => by cases e; exact ⟨o, h, ho⟩)⟩
set_option maxHeartbeats 4000000 in
set_option maxRecDepth 100000 in
theorem chunk1_in (nn : Nat) (hn : 1 ≤ nn) (l Bs Bn b off n c : Nat) (hn1 : 1 ≤ n) (hn64 : n ≤ 64) (hc : n ≤ c) (J Jx : List Nat → World → Prop) (W : World)
    (hJ : AbidesFrom W.heap.size J)
    (hY : ∀ pre x W1, J pre W1 → pre.length < 8 → YieldAt Fence.wide (nn - 1) Tryz.prog l #[.slice (some ⟨b, off + 8 * x * 4, none⟩) (gl n x) (gl n x)] W1 fun e W' =>
      (e = .returned (.bool true) ∧ J (pre ++ [x]) W' ∧ KpC Bs Bn W1 W') ∨ (e = .returned (.bool false) ∧ Jx (pre ++ [x]) W'))
    (hBs : W.cell? ⟨Bs, 0, none⟩ = some (.slice (some ⟨b, off, none⟩) n c)) (hBn : W.cell? ⟨Bn, 0, none⟩ = some (.int .i64 8)) (h0 : J [] W) :
    CallsIn Fence.wide nn Tryz.prog 54 #[.func (.yield l) #[] #[], .pointer (some ⟨Bs, 0, none⟩), .pointer (some ⟨Bn, 0, none⟩)] W fun e W' => (∃ v, e = .returned v) ∧
      ((∃ ys, ys = List.range (Tq.cnt n) ∧ J ys W') ∨ (∃ pre, (∃ k, k ≤ Tq.cnt n ∧ pre = List.range k) ∧ Jx pre W')) := by
  have HJ := keep hJ
  have HY := keep hY
  have H0 := keep h0
  clear hJ hY h0
  refine callsIn_of_wp Tryz.func54 rfl trivial ?_ rfl
  simp only [Tryz.ntmps54, List.size_toArray, List.length_cons, List.length_nil, Nat.reduceAdd, Nat.reduceSub, Array.replicate_succ, Array.replicate_zero, List.push_toArray, List.append_toArray, List.nil_append, List.cons_append]
  gi_wp2
  gi_loopw [4] (fun i wr => ∃ k : Nat, k ≤ Tq.cnt n ∧ i = .int .i64 ((8 * k : Nat) : Int) ∧ wr.cell? ⟨Bs, 0, none⟩ = some (.slice (some ⟨b, off, none⟩) n c) ∧ wr.cell? ⟨Bn, 0, none⟩ = some (.int .i64 8) ∧ Hid (J (List.range k) wr)) (fun i _ => 64 - (intOf i).toNat)
  case atStart => exact ⟨0, by omega, rfl, hBs, hBn, H0.out⟩
  case round =>
    clear hBs hBn H0
    obtain ⟨k, hk, rfl, c1, c2, hJk⟩ := hrel
    have HK : Hid (k ≤ (n + 7) / 8) := hk
    have hk8 : k ≤ 8 := by have := HK.out; omega
    clear hk
    by_cases hlt : 8 * k < n
    · have JD : Hid (J (List.range k) wr.drew) := HJ.out (List.range k) wr wr.drew none hJk.out (grown_of_below (Below.refl _ _).drew) (fun r e => by cases e)
      obtain ⟨fn, tmps, assign, body, hy, hR⟩ := HY.out _ k wr.drew JD.out (by rw [List.length_range]; omega)
      obtain ⟨q, hq⟩ : ∃ q, 8 * k = q := ⟨_, rfl⟩
      have HQ := keep hq
      have HG : Hid (gl n k = min 8 (n - q)) := by show _ = _; rw [← hq]; rfl
      rw [HG.out] at hy
      rw [hq] at hlt hy ⊢
      have HYY := keep hy
      clear hq hy HG
      have ll : (q : Int) < (n : Int) := by omega
      have ll0 : (0 : Int) ≤ (q : Int) := by omega
      have nc : ¬ c = q := by omega
      have q64 : q ≤ 64 := by omega
      have nq : ¬ n < q := by omega
      have sw : IntKind.i64.wrap ((q : Int) + 8) = (q : Int) + 8 := wrap_small _ (by omega) (by omega)
      have CC : Hid (∀ w', Below wr.heap.size wr w' → w'.cell? ⟨Bs, 0, none⟩ = some (.slice (some ⟨b, off, none⟩) n c) ∧ w'.cell? ⟨Bn, 0, none⟩ = some (.int .i64 8)) := fun w' hb => ⟨belowc hb c1, belowc hb c2⟩
      obtain ⟨d1, d2⟩ := CC.out _ (Below.refl wr.heap.size wr).drew
      by_cases h8 : n - q < 8
      · have h8i : ((n - q : Nat) : Int) < 8 := by omega
        have e1 : (q : Int) + ((n - q : Nat) : Int) = (n : Int) := by omega
        have e2 : IntKind.i64.wrap (n : Int) = (n : Int) := wrap_small _ (by omega) (by omega)
        have e3 : min 8 (n - q) = n - q := by omega
        have hy := HYY.out
        rw [e3] at hy
        clear e3 HYY
        gi_wp2_with fail
        rw [wpIn_wide]
        refine wp_region_held_drew (S := fun w' => Below wr.heap.size wr w') (by kernel_rfl) ((Below.refl _ _).drew) (fun hHeld => ?_)
        refine takeH (i := 0) 13 (v := .int .i64 8) rfl rfl (by kernel_rfl) (by kernel_rfl) (by kernel_rfl) (fun _ _ _ h => h) (Or.inl ⟨by rfl, ?_⟩) (by assumption) ?_
        · intro w' hSw'
          obtain ⟨d0, d1⟩ := CC.out w' hSw'
          go_simp
        simp only [Act.put, List.setIfInBounds_toArray, List.set_cons_zero, List.set_cons_succ]
        refine takeH (i := 1) 14 (v := .slice (some ⟨b, off, none⟩) n c) rfl rfl (by kernel_rfl) (by kernel_rfl) (by kernel_rfl) (fun _ _ _ h => h) (Or.inl ⟨by rfl, ?_⟩) (by assumption) ?_
        · intro w' hSw'
          obtain ⟨d0, d1⟩ := CC.out w' hSw'
          go_simp
        simp only [Act.put, List.setIfInBounds_toArray, List.set_cons_zero, List.set_cons_succ]
        refine takeH (i := 2) 15 (v := .int .i64 (q : Int)) rfl rfl (by kernel_rfl) (by kernel_rfl) (by kernel_rfl) (fun _ _ _ h => h) (Or.inl ⟨by rfl, ?_⟩) (by assumption) ?_
        · intro w' hSw'
          go_simp
        simp only [Act.put, List.setIfInBounds_toArray, List.set_cons_zero, List.set_cons_succ]
        refine takeH (i := 3) 16 (v := .slice (some ⟨b, off + q * 4, none⟩) (n - q) (c - q)) rfl rfl (by kernel_rfl) (by kernel_rfl) (by kernel_rfl) (fun _ _ _ h => h) (Or.inl ⟨by rfl, ?_⟩) (by assumption) ?_
        · intro w' hSw'
          go_simp
        simp only [Act.put, List.setIfInBounds_toArray, List.set_cons_zero, List.set_cons_succ]
        refine takeH (i := 4) 17 (v := .int .i64 ((n - q : Nat) : Int)) rfl rfl (by kernel_rfl) (by kernel_rfl) (by kernel_rfl) (fun _ _ _ h => h) (Or.inl ⟨by rfl, ?_⟩) (by assumption) ?_
        · intro w' hSw'
          go_simp
        simp only [Act.put, List.setIfInBounds_toArray, List.set_cons_zero, List.set_cons_succ]
        refine takeH (i := 5) 18 (v := .int .i64 ((n - q : Nat) : Int)) rfl rfl (by kernel_rfl) (by kernel_rfl) (by kernel_rfl) (fun _ _ _ h => h) (Or.inl ⟨by rfl, ?_⟩) (by assumption) ?_
        · intro w' hSw'
          go_simp
        simp only [Act.put, List.setIfInBounds_toArray, List.set_cons_zero, List.set_cons_succ]
        refine takeH (i := 6) 5 (v := .int .i64 ((n - q : Nat) : Int)) rfl rfl (by kernel_rfl) (by kernel_rfl) (by kernel_rfl) (fun _ _ _ h => h) (Or.inl ⟨by rfl, ?_⟩) (by assumption) ?_
        · intro w' hSw'
          go_simp
        simp only [Act.put, List.setIfInBounds_toArray, List.set_cons_zero, List.set_cons_succ]
        refine wpAnyH_done (by kernel_rfl) ?_ _
        gi_wp2_with fail
        refine hR.mono ?_
        rintro e W3 (⟨rfl, hJ3, hk3⟩ | ⟨rfl, hJx3⟩)
        · have hJ4 : Hid (J (List.range (k + 1)) W3) := by show J _ _; rw [List.range_succ]; exact hJ3
          have hc3 := hk3.1 _ d1
          have hc4 := hk3.2 _ d2
          clear hJ3 hk3 JD hJk
          gi_wp2
          go_roundw
          case rel => exact ⟨k + 1, by show _ ≤ (n + 7) / 8; have := HQ.out; omega, by have := HQ.out; first | go_num | (congr 1; omega), hc3, hc4, hJ4⟩
          case measure => simp [intOf]; omega
        · gi_wp2
          refine bodyPost_ret (results_none rfl _ _ _) rfl ?_
          exact ⟨⟨_, rfl⟩, .inr ⟨_, ⟨k + 1, by show _ ≤ (n + 7) / 8; have := HQ.out; omega, List.range_succ.symm⟩, hJx3⟩⟩
      · have h8i : ¬ ((n - q : Nat) : Int) < 8 := by omega
        have e3 : min 8 (n - q) = 8 := by omega
        have e4 : (q : Int) + 8 ≤ (n : Int) := by omega
        have e5 : (q : Int) + 8 ≤ (c : Int) := by omega
        have e6 : (0 : Int) ≤ (q : Int) + 8 := by omega
        have e7 : (q : Int) ≤ (q : Int) + 8 := by omega
        have hy := HYY.out
        rw [e3] at hy
        clear e3 HYY
        gi_wp2_with fail
        rw [wpIn_wide]
        refine wp_region_held_drew (S := fun w' => Below wr.heap.size wr w') (by kernel_rfl) ((Below.refl _ _).drew) (fun hHeld => ?_)
        refine takeH (i := 0) 13 (v := .int .i64 8) rfl rfl (by kernel_rfl) (by kernel_rfl) (by kernel_rfl) (fun _ _ _ h => h) (Or.inl ⟨by rfl, ?_⟩) (by assumption) ?_
        · intro w' hSw'
          obtain ⟨d0, d1⟩ := CC.out w' hSw'
          go_simp
        simp only [Act.put, List.setIfInBounds_toArray, List.set_cons_zero, List.set_cons_succ]
        refine takeH (i := 1) 14 (v := .slice (some ⟨b, off, none⟩) n c) rfl rfl (by kernel_rfl) (by kernel_rfl) (by kernel_rfl) (fun _ _ _ h => h) (Or.inl ⟨by rfl, ?_⟩) (by assumption) ?_
        · intro w' hSw'
          obtain ⟨d0, d1⟩ := CC.out w' hSw'
          go_simp
        simp only [Act.put, List.setIfInBounds_toArray, List.set_cons_zero, List.set_cons_succ]
        refine takeH (i := 2) 15 (v := .int .i64 (q : Int)) rfl rfl (by kernel_rfl) (by kernel_rfl) (by kernel_rfl) (fun _ _ _ h => h) (Or.inl ⟨by rfl, ?_⟩) (by assumption) ?_
        · intro w' hSw'
          go_simp
        simp only [Act.put, List.setIfInBounds_toArray, List.set_cons_zero, List.set_cons_succ]
        refine takeH (i := 3) 16 (v := .slice (some ⟨b, off + q * 4, none⟩) (n - q) (c - q)) rfl rfl (by kernel_rfl) (by kernel_rfl) (by kernel_rfl) (fun _ _ _ h => h) (Or.inl ⟨by rfl, ?_⟩) (by assumption) ?_
        · intro w' hSw'
          go_simp
        simp only [Act.put, List.setIfInBounds_toArray, List.set_cons_zero, List.set_cons_succ]
        refine takeH (i := 4) 17 (v := .int .i64 ((n - q : Nat) : Int)) rfl rfl (by kernel_rfl) (by kernel_rfl) (by kernel_rfl) (fun _ _ _ h => h) (Or.inl ⟨by rfl, ?_⟩) (by assumption) ?_
        · intro w' hSw'
          go_simp
        simp only [Act.put, List.setIfInBounds_toArray, List.set_cons_zero, List.set_cons_succ]
        refine takeH (i := 5) 18 (v := .int .i64 8) rfl rfl (by kernel_rfl) (by kernel_rfl) (by kernel_rfl) (fun _ _ _ h => h) (Or.inl ⟨by rfl, ?_⟩) (by assumption) ?_
        · intro w' hSw'
          go_simp
          intro hx; omega
        simp only [Act.put, List.setIfInBounds_toArray, List.set_cons_zero, List.set_cons_succ]
        refine takeH (i := 6) 5 (v := .int .i64 8) rfl rfl (by kernel_rfl) (by kernel_rfl) (by kernel_rfl) (fun _ _ _ h => h) (Or.inl ⟨by rfl, ?_⟩) (by assumption) ?_
        · intro w' hSw'
          go_simp
        simp only [Act.put, List.setIfInBounds_toArray, List.set_cons_zero, List.set_cons_succ]
        refine wpAnyH_done (by kernel_rfl) ?_ _
        gi_wp2_with fail
        refine hR.mono ?_
        rintro e W3 (⟨rfl, hJ3, hk3⟩ | ⟨rfl, hJx3⟩)
        · have hJ4 : Hid (J (List.range (k + 1)) W3) := by show J _ _; rw [List.range_succ]; exact hJ3
          have hc3 := hk3.1 _ d1
          have hc4 := hk3.2 _ d2
          clear hJ3 hk3 JD hJk
          gi_wp2
          go_roundw
          case rel => exact ⟨k + 1, by show _ ≤ (n + 7) / 8; have := HQ.out; omega, by have := HQ.out; first | go_num | (congr 1; omega), hc3, hc4, hJ4⟩
          case measure => simp [intOf]; omega
        · gi_wp2
          refine bodyPost_ret (results_none rfl _ _ _) rfl ?_
          exact ⟨⟨_, rfl⟩, .inr ⟨_, ⟨k + 1, by show _ ≤ (n + 7) / 8; have := HQ.out; omega, List.range_succ.symm⟩, hJx3⟩⟩
    · have ll : ¬ ((8 * k : Nat) : Int) < (n : Int) := by omega
      have hke : k = Tq.cnt n := by have := HK.out; show k = (n + 7) / 8; omega
      have HKE := keep hke
      clear hke
      gi_wp2
      go_end0
      exact ⟨⟨_, rfl⟩, .inl (by rw [← HKE.out]; exact hJk.out)⟩
theorem chunk_stops (nn : Nat) (hn : 1 ≤ nn) (Bs Bn b off n c : Nat) (hn1 : 1 ≤ n) (hn64 : n ≤ 64) (hc : n ≤ c) (w : World)
    (hBs : w.cell? ⟨Bs, 0, none⟩ = some (.slice (some ⟨b, off, none⟩) n c)) (hBn : w.cell? ⟨Bn, 0, none⟩ = some (.int .i64 8)) :
    SeqStopsK Fence.wide nn Tryz.prog 54 #[.pointer (some ⟨Bs, 0, none⟩), .pointer (some ⟨Bn, 0, none⟩)] (fun x : Nat => #[.slice (some ⟨b, off + 8 * x * 4, none⟩) (gl n x) (gl n x)]) (KpC Bs Bn) (fun ys => ys = List.range (Tq.cnt n)) (fun pre => ∃ k, k ≤ Tq.cnt n ∧ pre = List.range k) 8 w :=
  fun l J Jx W hW hJ _ hY h0 => chunk1_in nn hn l Bs Bn b off n c hn1 hn64 hc J Jx W hJ hY (belowc hW hBs) (belowc hW hBn) h0
end Go.Proofs.YtjblicgbdecbcaaGreat
namespace Go.Proofs.YtjblicgbdecbcaaGreat
open Go.RowKit Go.Shelf
open Sk (Ent)
attribute [local go_sem] Oper.semAt_some

/-- A slice of entries as it lies in memory. -/
structure GrpE where
  ptr : Option Addr
  len : Nat
  cap : Nat
  es : List EV
def grpKind : Kind GrpE where
  size := 1
  vals g := [.slice g.ptr g.len g.cap]
  held w g := RSrc entKind w g.ptr g.len g.cap g.es
theorem grpKind_ok : grpKind.Ok :=
  ⟨by decide, fun _ => rfl, fun e u hu => by
    simp only [grpKind, List.mem_cons, List.not_mem_nil, or_false] at hu
    rw [hu]; rfl, fun h hb => RSrc.below entKind_ok h hb⟩
/-- The k-th group. -/
def grpE (b off n : Nat) (es : List EV) (k : Nat) : GrpE := ⟨some ⟨b, off + 8 * k * 4, none⟩, gl n k, gl n k, (es.drop (8 * k)).take 8⟩
theorem grpE_held {w : World} {b off n c : Nat} {es : List EV} (h : RSrc entKind w (some ⟨b, off, none⟩) n c es) {k : Nat} (hk : 8 * k < n) : grpKind.held w (grpE b off n es k) := by
  have h1 := h.part (8 * k) (gl n k) (by unfold gl; omega)
  have e : (es.drop (8 * k)).take (gl n k) = (es.drop (8 * k)).take 8 := by
    unfold gl
    rcases Nat.lt_or_ge (n - 8 * k) 8 with h8 | h8
    · rw [Nat.min_eq_right (by omega), List.take_of_length_le (i := 8) (by rw [List.length_drop, h.len]; omega), List.take_of_length_le (by rw [List.length_drop, h.len]; omega)]
    · rw [Nat.min_eq_left h8]
  rw [e] at h1
  exact ⟨h1.len, Nat.le_refl _, fun e => (by cases e), h1.cells, h1.held⟩
theorem own_form {w : World} {B t k n : Nat} {v : Value} {xs : List Value} (h : w.ownsRow B t k v (n + 1) xs) : ∃ g cap, v = .slice (some ⟨g, 0, none⟩) (n + 1) cap := by
  rcases h.2 with ⟨_, h0⟩ | ⟨g, cap, cur, e, _⟩
  · omega
  · exact ⟨g, cap, e⟩
theorem infoG : (Tryz.prog.info? 22).map (fun i => (i.zero, i.size, i.bytes)) = some (some (.slice none 0 0), 1, 24) := by kernel_rfl
/-- The groups that have come, in the box. -/
def GrpI (w : World) (Bx b off n : Nat) (es : List EV) (pre : List Nat) (W : World) : Prop :=
  ∃ v, Boxed W Bx 49 v ∧ W.ownsRow w.heap.size 22 1 v pre.length (rv grpKind (pre.map (grpE b off n es))) ∧ Below w.heap.size w W
theorem GrpI.own {w : World} {Bx b off n B : Nat} {es : List EV} (hB : w.heap.size ≤ B) : OwnFrom B (GrpI w Bx b off n es) := fun pre W W' row h hg hr => by
  obtain ⟨v, h1, h2, h3⟩ := h
  refine ⟨v, h1.kept hg (fun e => ?_), own_block h2 (fun g hg' => hg.block g (own_size h2 hg') (fun e => ?_)), h3.grown hg h3.size (fun k e => Nat.le_trans hB (hr k e).1)⟩
  · obtain ⟨_, o, ho, hc⟩ := hr _ e.symm
    rw [show W.heap[Bx]? = _ from h1] at ho
    cases ho
    cases hc
  · obtain ⟨_, o, ho, hc⟩ := hr _ e.symm
    obtain ⟨cur, hcur⟩ := own_tag h2 hg'
    rw [hcur] at ho
    cases ho
    cases hc
set_option maxHeartbeats 2000000 in
set_option maxRecDepth 100000 in
theorem appendSeq_any (Bs Bn b off n c : Nat) (es : List EV) (w : World) (hn1 : 1 ≤ n) (hn64 : n ≤ 64) (hc : n ≤ c)
    (hBs : w.cell? ⟨Bs, 0, none⟩ = some (.slice (some ⟨b, off, none⟩) n c)) (hBn : w.cell? ⟨Bn, 0, none⟩ = some (.int .i64 8)) :
    Calls Tryz.prog 53 #[.slice none 0 0, .func (.func 54) #[] #[.pointer (some ⟨Bs, 0, none⟩), .pointer (some ⟨Bn, 0, none⟩)]] w fun e w' => ∃ v, e = .returned v ∧ w'.ownsRow w.heap.size 22 1 v (Tq.cnt n) (rv grpKind ((List.range (Tq.cnt n)).map (grpE b off n es))) ∧ Below w.heap.size w w' := by
  obtain ⟨i0, hi0, hz0, hz1, hz2⟩ := info_parts22q infoG
  obtain ⟨W1, hW1⟩ : ∃ W1, w.alloc (.cells #[.slice none 0 0] 49) = W1 := ⟨_, rfl⟩
  have b1 : Hid (Below w.heap.size w W1) := by rw [← hW1]; exact (Below.refl _ _).alloc (Nat.le_refl _) _
  have x1 : Hid (Boxed W1 w.heap.size 49 (.slice none 0 0)) := by rw [← hW1]; exact Boxed.new _ _ _
  have s1 : Hid (w.heap.size ≤ W1.heap.size) := b1.out.size
  have q1 : Hid (W1.cell? ⟨Bs, 0, none⟩ = some (.slice (some ⟨b, off, none⟩) n c)) := belowc b1.out hBs
  have q2 : Hid (W1.cell? ⟨Bn, 0, none⟩ = some (.int .i64 8)) := belowc b1.out hBn
  have lB : Hid (Bs < w.heap.size ∧ Bn < w.heap.size) := ⟨World.block_lt_of_cell? w _ hBs, World.block_lt_of_cell? w _ hBn⟩
  clear hBs hBn
  rw [← callsIn_wide (n := 8)]
  refine callsIn_of_wp_marks Tryz.func53 rfl trivial ?_ rfl
  simp only [Tryz.ntmps53, List.size_toArray, List.length_cons, List.length_nil, Nat.reduceAdd, Nat.reduceSub, Array.replicate_succ, Array.replicate_zero, List.push_toArray, List.append_toArray, List.nil_append, List.cons_append]
  gi_wp2_with fail
  refine wpIn_rangeFunc_ownG (α := Nat) (F := Fence.wide) rfl (by decide) (gf := 54) (lb := #[.pointer (some ⟨Bs, 0, none⟩), .pointer (some ⟨Bn, 0, none⟩)]) rfl trivial (enters_of Tryz.func54 (by kernel_rfl) rfl)
    (chunk_stops 7 (by decide) Bs Bn b off n c hn1 hn64 hc W1 q1.out q2.out) KpC.t KpC.b (Below.refl _ _) (fun _ => rfl)
    (GrpI w w.heap.size b off n es)
    (fun _ _ _ => False)
    (GrpI.own s1.out)
    (fun c pre W W' row h hg hr => h)
    ⟨_, x1.out, World.ownsRow_nil _ _ _ _, b1.out⟩
    (fun x => { tmps := #[.slice none 0 0, .func (.func 54) #[] #[.pointer (some ⟨Bs, 0, none⟩), .pointer (some ⟨Bn, 0, none⟩)], .pointer (some ⟨w.heap.size, 0, none⟩), undef, .slice none 0 0, .slice (some ⟨b, off + 8 * x * 4, none⟩) (gl n x) (gl n x), .func (.func 54) #[] #[.pointer (some ⟨Bs, 0, none⟩), .pointer (some ⟨Bn, 0, none⟩)], .slice (some ⟨b, off + 8 * x * 4, none⟩) (gl n x) (gl n x), undef, undef, undef, undef, undef], defers := [] }) ?assign ?body ?done ?stop
  case assign =>
    intro l x W K hK
    gi_wp2
    exact hK
  case body =>
    rintro l pre x W ⟨v, hx, ho, hb⟩ hlen
    have HX := keep hx
    have HO := keep ho
    have HB := keep hb
    have hcell := hx.cell
    have hw := hb.size
    have AP : Hid (∀ v' w3, w3.ownsRow w.heap.size 22 1 v' (pre.length + 1) (rv grpKind (pre.map (grpE b off n es)) ++ [.slice (some ⟨b, off + 8 * x * 4, none⟩) (gl n x) (gl n x)]) → (W.alloc (.cells #[.slice (some ⟨b, off + 8 * x * 4, none⟩) (gl n x) (gl n x)] 22)).grownBy w3 v.ownBlock → _) := fun v' w3 h1 h2 => Boxed.appended HX.out (by decide) HO.out HB.out.size (Nat.le_refl _) h1 h2
    clear hx ho hb
    gi_wp2_with (gi_at_builtin; refine wpListIn_append_own _ rfl _ _ 49 rfl w.heap.size 22 i0 (.slice none 0 0) 1 24 Tryz.underlying49 hi0 hz0 hz1 hz2 rfl (by decide) v pre.length _ rfl (HO.out.alloc _) ⟨W.heap.size, 0, none⟩ 1 1 [.slice (some ⟨b, off + 8 * x * 4, none⟩) (gl n x) (gl n x)] rfl rfl (cell_one_new _ _ _) (by simp [Value.oneCell']) (by unfold maxLen; omega) (by omega) (by simp; omega) ?_; intro v' w3 hown' hg3 hnil3; obtain ⟨g', cap', rfl⟩ := own_form hown'; have A3 := keep (AP.out _ w3 hown' hg3); have hc3 := A3.out.1.cell; have hf3 := A3.out.1.frozen; clear hown' hg3 hnil3)
    obtain ⟨_, h2, h3, h4, h5⟩ := A3.out
    refine ⟨h4.from _, ⟨fun u hu => ?_, fun u hu => ?_⟩, _, h2, ?_, HB.out.trans h5⟩
    · rw [h5.cell (p := ⟨Bs, 0, none⟩) lB.out.1]; exact hu
    · rw [h5.cell (p := ⟨Bn, 0, none⟩) lB.out.2]; exact hu
    · rw [List.map_append, rv_append, List.length_append]
      exact h3
  case done =>
    rintro D ys W hD rfl ⟨v, hx, ho, hb⟩ hK
    have hcell := hx.cell
    have HO := keep ho
    have HB := keep hb
    have HK := keep hK
    clear ho hb hK hx
    gi_wp2
    refine leaves_marks (B := w.heap.size) [D] _ ⟨by simp, fun x hx => ?_, fun x hx => ?_⟩ (fun W' hs => ⟨v, ?_, ?_⟩)
    · rw [List.mem_singleton.1 hx]; exact Nat.le_trans s1.out hD
    · rw [List.mem_singleton.1 hx]; exact HK.out
    · simp [results, Tryz.f53, go_sem]
    · refine ⟨_, rfl, ?_, HB.out.trans (hs.below HB.out.size)⟩
      have := hs.own HO.out
      rwa [List.length_range] at this
  case stop =>
    rintro D c pre W hD _ h hK
    exact h.elim
theorem collect_any (Bs Bn b off n c : Nat) (es : List EV) (w : World) (hn1 : 1 ≤ n) (hn64 : n ≤ 64) (hc : n ≤ c)
    (hBs : w.cell? ⟨Bs, 0, none⟩ = some (.slice (some ⟨b, off, none⟩) n c)) (hBn : w.cell? ⟨Bn, 0, none⟩ = some (.int .i64 8)) :
    Calls Tryz.prog 23 #[.func (.func 54) #[] #[.pointer (some ⟨Bs, 0, none⟩), .pointer (some ⟨Bn, 0, none⟩)]] w fun e w' => ∃ v, e = .returned v ∧ w'.ownsRow w.heap.size 22 1 v (Tq.cnt n) (rv grpKind ((List.range (Tq.cnt n)).map (grpE b off n es))) ∧ Below w.heap.size w w' := by
  have AS := keep (appendSeq_any Bs Bn b off n c es w hn1 hn64 hc hBs hBn)
  go_enter Tryz.func23, Tryz.ntmps23
  go_wp2_with fail
  refine AS.out.mono ?_
  rintro e w1 ⟨v, rfl, ho, hb⟩
  have HO := keep ho
  have HB := keep hb
  clear ho hb
  go_wp2
  go_ret
  exact ⟨_, rfl, HO.out, HB.out⟩
end Go.Proofs.YtjblicgbdecbcaaGreat
