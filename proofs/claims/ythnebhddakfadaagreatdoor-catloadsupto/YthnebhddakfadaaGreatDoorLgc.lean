/- The walk of disk's Load. -/
import Derived.Test.YthnebhddakfadaaGreatDoorJoinNn
import Derived.Test.YthnebhddakfadaaGreatDoorJoinOi
import Derived.Test.YthnebhddakfadaaGreatDoorJoinHk
namespace Go.Proofs.YthnebhddakfadaaGreatDoor
open Go.RowKit
open Dk (File Disk)

set_option maxHeartbeats 2000000 in
set_option maxRecDepth 100000 in
theorem whole_any (nm : List UInt8) (sf : Int) (p : Option Addr) (bn k : Nat) (w : World) :
    Calls Tryz.prog 74 #[.agg #[.string ⟨nm.toArray⟩, .int .i64 sf, .slice p bn k]] w fun e w' => e = .returned (.bool (Dk.named nm && decide (0 ≤ sf) && decide (sf ≤ (bn : Int)))) ∧ Below w.heap.size w w' := by
  obtain ⟨W1, hW1⟩ : ∃ W1, w.alloc (.cells #[.string ⟨nm.toArray⟩, .int .i64 sf, .slice p bn k] 70) = W1 := ⟨_, rfl⟩
  have b1 : Hid (Below w.heap.size w W1) := by rw [← hW1]; exact (Below.refl _ _).alloc (Nat.le_refl _) _
  have g1 : Hid (W1.heap[w.heap.size]? = some (.cells #[.string ⟨nm.toArray⟩, .int .i64 sf, .slice p bn k] 70)) := by rw [← hW1]; exact heap_alloc_new w _
  have FB : Hid (∀ w', Below W1.heap.size W1 w' → w'.cell? ⟨w.heap.size, 0, none⟩ = some (.string ⟨nm.toArray⟩) ∧ w'.cell? ⟨w.heap.size, 1, none⟩ = some (.int .i64 sf) ∧ w'.cell? ⟨w.heap.size, 2, none⟩ = some (.slice p bn k)) := fun w' hb => ⟨below_cell hb (cell_of_row _ _ _ _ _ _ g1.out), below_cell hb (cell_of_row _ _ _ _ _ _ g1.out), below_cell hb (cell_of_row _ _ _ _ _ _ g1.out)⟩
  obtain ⟨c0, c1, c2⟩ := FB.out W1 (Below.refl _ _)
  have MB := keep (maybe_any nm W1)
  go_enter Tryz.func74, Tryz.ntmps74
  go_wp2_with fail
  refine MB.out.mono ?_
  rintro e w2 ⟨rfl, hb2⟩
  obtain ⟨d0, d1, d2⟩ := FB.out w2 hb2
  have B2 := keep (b1.out.trans (hb2.mono b1.out.size))
  clear hb2 c0 c1 c2 hW1 MB
  cases hnm : Dk.named nm with
  | false =>
    go_wp2
    go_ret
    exact ⟨by rw [hnm]; rfl, B2.out⟩
  | true =>
    by_cases h0 : 0 ≤ sf
    · by_cases h1 : sf ≤ (bn : Int)
      · go_wp2
        go_ret
        exact ⟨by rw [decide_eq_true h0, decide_eq_true h1, hnm]; rfl, B2.out⟩
      · go_wp2
        go_ret
        exact ⟨by rw [decide_eq_true h0, decide_eq_false (Int.not_le.2 h1), hnm]; rfl, B2.out⟩
    · go_wp2
      go_ret
      exact ⟨by rw [decide_eq_false (Int.not_le.2 h0)]; simp, B2.out⟩
/-- The program's disk while files are being loaded. -/
structure LdAt (B : Nat) (S : Nat → Prop) (w : World) (b m : Nat) (l : List Named) (free : Int) (fs : List File) : Prop where
  box : Box w b m free (-1) false 0
  map : MapIs Tryz.prog 9 w m l
  rel : Rel w Nobody l fs
  foot : Foot S m l
  out : ¬ S b
  lt : ∀ g, S g → g < w.heap.size
  news : ∀ g, S g → B ≤ g
  at_ : B ≤ b
theorem LdAt.below {B : Nat} {S : Nat → Prop} {w w' : World} {b m : Nat} {l : List Named} {free : Int} {fs : List File} (h : LdAt B S w b m l free fs) (hb : Below w.heap.size w w') : LdAt B S w' b m l free fs :=
  ⟨h.box.same (hb.block b h.box.lt), h.map.same (hb.block m (h.lt m h.foot.mine)), h.rel.turn (fun _ e => e) (fun x hx _ g hg => hb.block g (h.lt g (h.foot.arrs x hx g hg).1)), h.foot, h.out, fun g hg => Nat.lt_of_lt_of_le (h.lt g hg) hb.size, h.news, h.at_⟩
/-- A file laid in. -/
theorem LdAt.laid {B : Nat} {S : Nat → Prop} {w w4 w5 : World} {b m : Nat} {l : List Named} {free : Int} {fs : List File} (h : LdAt B S w b m l free fs) (hB : B ≤ w.heap.size) {nm : List UInt8} {sn : Nat} {bs : List UInt8} {ao4 : Option Addr} {c4 : Nat} (hb4 : Below w.heap.size w w4) (ho : w4.ownsRow w.heap.size 5 1 (.slice ao4 bs.length c4) bs.length (bv bs))
    (hm5 : MapIs Tryz.prog 9 w5 m (lay l nm (.agg #[.int .i64 (sn : Int), .slice ao4 bs.length c4]))) (hg : w4.grownBy w5 (some m)) (free' : Int) : LdAt B (more S w w5) (w5.setCell ⟨b, 1, none⟩ (.int .i64 free')) b m (lay l nm (.agg #[.int .i64 (sn : Int), .slice ao4 bs.length c4])) free' (Dk.put fs ⟨nm, sn, bs⟩) ∧ Below B w (w5.setCell ⟨b, 1, none⟩ (.int .i64 free')) := by
  have hm := h.lt m h.foot.mine
  have hbm : ¬ b = m := fun e => h.out (by rw [e]; exact h.foot.mine)
  have hblt := h.box.lt
  have h4 : ∀ g, g < w.heap.size → g ≠ m → w5.heap[g]? = w.heap[g]? := fun g hg1 hg2 => (hg.block g (Nat.lt_of_lt_of_le hg1 hb4.size) (fun e => hg2 (Option.some.inj e))).trans (hb4.block g hg1)
  have hset : ∀ g, g ≠ b → (w5.setCell ⟨b, 1, none⟩ (.int .i64 free')).heap[g]? = w5.heap[g]? := fun g hg1 => Below.heap_setCell w5 ⟨b, 1, none⟩ _ g hg1
  have hsz : (w5.setCell ⟨b, 1, none⟩ (.int .i64 free')).heap.size = w5.heap.size := by simp only [World.setCell, Array.size_modify]
  have hs5 : w.heap.size ≤ w5.heap.size := Nat.le_trans hb4.size hg.size
  have hao : ∀ g, (Value.slice ao4 bs.length c4).ownBlock = some g → w.heap.size ≤ g ∧ g < w4.heap.size := fun g hgg => ho.lt g hgg
  refine ⟨⟨?_, hm5.same (hset m (fun e => hbm e.symm)), ?_, ?_, ?_, ?_, ?_, h.at_⟩, ?_⟩
  · exact (h.box.same (h4 b hblt hbm)).set1 _
  · refine Rel.lay (f := ⟨nm, sn, bs⟩) ⟨_, rfl, ?_⟩ h.map.1 (h.rel.turn (fun _ e => e.elim) (fun x hx hne g hgx => ?_))
    · have h1 : w4.ownsRow 0 5 1 (.slice ao4 bs.length c4) bs.length (bv bs) := own_base ho (fun g _ => Nat.zero_le _)
      refine own_block h1 (fun g hgg => ?_)
      obtain ⟨q1, q2⟩ := hao g hgg
      rw [hset g (by omega)]
      exact hg.block g q2 (fun e => by have := Option.some.inj e; omega)
    · obtain ⟨q1, q2⟩ := h.foot.arrs x hx g hgx
      rw [hset g (fun e => h.out (by rw [← e]; exact q1))]
      exact h4 g (h.lt g q1) q2
  · refine h.foot.lay h.map.1 (fun g hgs => .inl hgs) (fun g hgg => ?_)
    obtain ⟨q1, q2⟩ := hao g hgg
    refine ⟨.inr ⟨q1, Nat.lt_of_lt_of_le q2 hg.size⟩, by omega, fun y hy _ e => ?_⟩
    have := h.lt g (h.foot.arrs y hy g e).1
    omega
  · rintro (e | e)
    · exact h.out e
    · omega
  · intro g hgs
    rw [hsz]
    rcases hgs with e | e
    · exact Nat.lt_of_lt_of_le (h.lt g e) hs5
    · exact e.2
  · intro g hgs
    rcases hgs with e | e
    · exact h.news g e
    · exact Nat.le_trans hB e.1
  · refine ⟨hg.os.trans hb4.os, hg.tape.trans hb4.tape, hg.output.trans hb4.output, by rw [hsz]; exact hs5, fun g hg1 => ?_⟩
    have q1 := h.at_
    have q2 := h.news m h.foot.mine
    rw [hset g (by omega)]
    exact h4 g (by omega) (by omega)
set_option maxHeartbeats 4000000 in
set_option maxRecDepth 100000 in
theorem dload_any (cap : Int) (ao : Option Addr) (n c : Nat) (es : List Ent) (w : World) (hs : RSrc fileKind w ao n c es) (hn : n ≤ 1073741824) (hb : bulk es ≤ 1152921504606846976) (hby : ∀ e ∈ es, e.bytes.length ≤ 140737488355328) (hnl : ∀ e ∈ es, e.name.length ≤ maxLen) :
    Calls Tryz.prog 32 #[.int .i64 cap, .slice ao n c] w fun e w' => Below w.heap.size w w' ∧ ((∃ z : Nat, ldOf cap es = .inl z ∧ e = .returned (.tuple #[.pointer none, .int .i64 (z : Int)])) ∨ ∃ S b d, ldOf cap es = .inr d ∧ e = .returned (.tuple #[.pointer (some ⟨b, 0, none⟩), .int .i64 0]) ∧ Mem S w' b d ∧ (∀ g, S g → w.heap.size ≤ g) ∧ w.heap.size ≤ b) := by
  have HS := keep hs
  have HL := keep hs.len
  have HB := keep hb
  have HBY := keep hby
  have HNL := keep hnl
  clear hs hb hby hnl
  by_cases hc : cap < 0 ∨ 1099511627776 < cap
  · have hr := keep (new_arg cap w hc)
    have E1 : Hid (ldOf cap es = .inl 1) := by show _ = _; unfold ldOf; rw [if_pos hc]
    clear hc
    go_enter Tryz.func32, Tryz.ntmps32
    go_wp2_with fail
    refine hr.out.mono ?_
    rintro e w1 ⟨rfl, hb1⟩
    have B1 := keep hb1
    clear hb1 hr
    go_wp2
    go_ret2
    exact ⟨B1.out, .inl ⟨1, E1.out, rfl⟩⟩
  obtain ⟨N, rfl⟩ : ∃ N : Nat, cap = (N : Int) := ⟨cap.toNat, by omega⟩
  have CC := keep hc
  have NB : Hid (N ≤ 1099511627776) := by show _ ≤ _; omega
  have hr := keep (new_raw (N : Int) w (by omega) (by omega))
  clear hc
  go_enter Tryz.func32, Tryz.ntmps32
  go_wp2_with fail
  refine hr.out.mono ?_
  rintro e w1 ⟨rfl, hw1⟩
  obtain ⟨b, hb⟩ : ∃ b, w.heap.size + 1 = b := ⟨_, rfl⟩
  have B1 : Hid (Below w.heap.size w w1) := by rw [hw1]; exact ((Below.refl _ _).alloc (Nat.le_refl _) _).alloc (by simp) _
  have L1 : Hid (LdAt w.heap.size (fun g => g = w.heap.size) w1 b w.heap.size [] (N : Int) []) := by
    have e1 : (w.alloc (.map #[] 0)).heap.size = w.heap.size + 1 := by simp
    refine ⟨?_, ?_, trivial, ⟨rfl, (fun x hx => by cases hx), (fun x hx => by cases hx)⟩, (fun e => by have : b = w.heap.size := e; omega), (fun g hg => by have : g = w.heap.size := hg; rw [hw1, this]; simp; omega), (fun g hg => Nat.le_of_eq (show g = w.heap.size from hg).symm), by omega⟩
    · have := heap_alloc_new (w.alloc (.map #[] 0)) (.cells #[.map (some w.heap.size), .int .i64 (N : Int), .int .i64 (-1), .bool false, .int .i64 0] 92)
      rw [e1, hb] at this
      rw [hw1]
      exact this
    · rw [hw1]
      exact (MapIs.made Tryz.prog 9 w).same (Below.heap_alloc _ _ _ (by simp))
  rw [hb]
  clear hw1 hr
  obtain ⟨m, hm⟩ : ∃ m, w.heap.size = m := ⟨_, rfl⟩
  have L2 : Hid (∃ S, LdAt w.heap.size S w1 b m [] (N : Int) []) := ⟨_, by rw [hm] at L1 ⊢; exact L1.out⟩
  clear L1 hb
  go_wp2_with fail
  go_loopw [0x16] (fun i wr => ∃ (t : Nat) (x : List File) (S : Nat → Prop) (l : List Named), t ≤ n ∧ i = .int .i64 (t : Int) ∧ Hid (ldAll [] (es.take t) = some x ∧ LdAt w.heap.size S wr b m l ((N : Int) - (Dk.used x : Int)) x ∧ Below w.heap.size w wr)) (fun i _ => n - (intOf i).toNat)
  case atStart =>
    obtain ⟨S, hL⟩ := L2.out
    exact ⟨0, [], S, [], Nat.zero_le _, rfl, rfl, by simpa [Dk.used] using hL, B1.out⟩
  case round =>
    obtain ⟨t, x, S, l, ht, rfl, HI⟩ := hrel
    clear L2 B1 hm
    have j0 : (0 : Int) ≤ (t : Int) := by omega
    have UP : Hid (∀ w', Below wr.heap.size wr w' → Below w.heap.size w w') := fun w' h => HI.out.2.2.trans (h.mono HI.out.2.2.size)
    have LX := keep (ldAll_ldd _ _ _ Ldd.nil HI.out.1)
    have US : Hid (Dk.used x ≤ 1152921504606846976) := by
      have h1 := LX.out.2.2
      have h2 := bulk_take es t
      have h3 := HB.out
      simp only [Dk.used] at h1
      show _ ≤ _
      omega
    have LN : Hid (l.length < maxLen) := by
      have h1 := HI.out.2.1.rel.length
      have h2 := LX.out.2.1
      rw [List.length_take] at h2
      simp only [List.length_nil] at h2
      show _ < _
      unfold maxLen
      omega
    rcases Nat.lt_or_ge t n with hlt | hge
    · have j1 : (t : Int) < (n : Int) := by omega
      obtain ⟨y, hy⟩ : ∃ y, es[t]? = some y := ⟨es[t]'(by rw [HL.out]; exact hlt), List.getElem?_eq_getElem _⟩
      have HY := keep hy
      obtain ⟨bb, off, rfl, _, hat⟩ := HS.out.form fileKind_ok (by omega)
      have HH : Hid (∀ w', Below wr.heap.size wr w' → fileKind.held w' y) := fun w' hb => fileKind_ok.below (HS.out.held _ (List.mem_of_getElem? hy)) (UP.out w' hb)
      have BY : Hid (y.bytes.length ≤ 140737488355328) := HBY.out y (List.mem_of_getElem? hy)
      have NL : Hid (y.name.length ≤ maxLen) := HNL.out y (List.mem_of_getElem? hy)
      obtain ⟨nm, sf, p, k, bs⟩ := y
      simp only at BY NL
      have a0 : wr.cell? ⟨bb, off + t * 3, none⟩ = some (.string ⟨nm.toArray⟩) := below_cell (UP.out wr (Below.refl _ _)) (hat t _ hy 0 _ rfl)
      have a1 : wr.cell? ⟨bb, off + t * 3 + 1, none⟩ = some (.int .i64 sf) := below_cell (UP.out wr (Below.refl _ _)) (hat t _ hy 1 _ rfl)
      have a2 : wr.cell? ⟨bb, off + t * 3 + 2, none⟩ = some (.slice p bs.length k) := below_cell (UP.out wr (Below.refl _ _)) (hat t _ hy 2 _ rfl)
      obtain ⟨WA, hWA⟩ : ∃ WA, wr.alloc (.cells #[.string ⟨nm.toArray⟩, .int .i64 sf, .slice p bs.length k] 70) = WA := ⟨_, rfl⟩
      have bA : Hid (Below wr.heap.size wr WA) := by rw [← hWA]; exact (Below.refl _ _).alloc (Nat.le_refl _) _
      have gA : Hid (WA.heap[wr.heap.size]? = some (.cells #[.string ⟨nm.toArray⟩, .int .i64 sf, .slice p bs.length k] 70)) := by rw [← hWA]; exact heap_alloc_new wr _
      have LA := keep (HI.out.2.1.below bA.out)
      have FB : Hid (∀ w', Below WA.heap.size WA w' → w'.cell? ⟨wr.heap.size, 0, none⟩ = some (.string ⟨nm.toArray⟩) ∧ w'.cell? ⟨wr.heap.size, 1, none⟩ = some (.int .i64 sf) ∧ w'.cell? ⟨wr.heap.size, 2, none⟩ = some (.slice p bs.length k)) := fun w' hb => ⟨below_cell hb (cell_of_row _ _ _ _ _ _ gA.out), below_cell hb (cell_of_row _ _ _ _ _ _ gA.out), below_cell hb (cell_of_row _ _ _ _ _ _ gA.out)⟩
      have MB : Hid (∀ w', Below WA.heap.size WA w' → w'.cell? ⟨b, 0, none⟩ = some (.map (some m))) := fun w' hb => below_cell hb LA.out.box.c0
      obtain ⟨ob, hob⟩ : ∃ ob, (seek l nm).isSome = ob := ⟨_, rfl⟩
      obtain ⟨zs, za, zk, zc, hz⟩ := seek_form LA.out.rel nm
      have HL : Hid (∀ w', Below WA.heap.size WA w' → (Instr.lookup 85 (.map (some m)) (.string ⟨nm.toArray⟩) true).run Tryz.prog w' = .ok (.tuple #[.agg #[.int .i64 zs, .slice za zk zc], .bool ob]) w') := fun w' hb => by
        have := map_look (LA.out.below hb).map nm NL.out
        rw [hz, hob] at this
        exact this
      have OBL : Hid ((Dk.look x nm).isSome = ob) := by
        show _ = _
        rw [← hob]
        cases hx : Dk.look x nm with
        | none => rw [LA.out.rel.none hx]; rfl
        | some f => obtain ⟨v, h1, _⟩ := LA.out.rel.some hx; rw [h1]; rfl
      clear hat hy hob hz
      go_wp2_with fail
      clear hWA a0 a1 a2
      refine region_share (fun a a' w' => a' = sets a [(27, .pointer (some ⟨b, 0, none⟩)), (28, .pointer (some ⟨b, 0, none⟩)), (29, .pointer (some ⟨b, 0, none⟩)), (30, .map (some m)), (31, .pointer (some ⟨wr.heap.size, 0, none⟩)), (32, .string ⟨nm.toArray⟩), (33, .tuple #[.agg #[.int .i64 zs, .slice za zk zc], .bool ob]), (26, .tuple #[.agg #[.int .i64 zs, .slice za zk zc], .bool ob]), (34, .agg #[.int .i64 zs, .slice za zk zc]), (35, .bool ob), (11, .bool ob), (10, .pointer (some ⟨WA.heap.size, 0, none⟩))] ∧ w' = (WA.alloc (.cells #[.int .i64 zs, .slice za zk zc] 95)).drew) ?_ ?_
      · refine wp_region_held_drew (S := fun w' => Below WA.heap.size WA w') (by kernel_rfl) ((Below.refl _ _).drew) (fun hHeld => ?_)
        refine takeH (i := 0) 27 (v := .pointer (some ⟨b, 0, none⟩)) rfl rfl (by kernel_rfl) (by kernel_rfl) (by kernel_rfl) (fun _ _ _ h => h) (Or.inl ⟨by rfl, ?_⟩) (by assumption) ?_
        · intro w' hSw'
          go_simp
        simp only [Act.put, List.setIfInBounds_toArray, List.set_cons_zero, List.set_cons_succ]
        refine takeH (i := 1) 28 (v := .pointer (some ⟨b, 0, none⟩)) rfl rfl (by kernel_rfl) (by kernel_rfl) (by kernel_rfl) (fun _ _ _ h => h) (Or.inl ⟨by rfl, ?_⟩) (by assumption) ?_
        · intro w' hSw'
          go_simp
        simp only [Act.put, List.setIfInBounds_toArray, List.set_cons_zero, List.set_cons_succ]
        refine takeH (i := 2) 29 (v := .pointer (some ⟨b, 0, none⟩)) rfl rfl (by kernel_rfl) (by kernel_rfl) (by kernel_rfl) (fun _ _ _ h => h) (Or.inl ⟨by rfl, ?_⟩) (by assumption) ?_
        · intro w' hSw'
          go_simp
        simp only [Act.put, List.setIfInBounds_toArray, List.set_cons_zero, List.set_cons_succ]
        refine takeH (i := 3) 30 (v := .map (some m)) rfl rfl (by kernel_rfl) (by kernel_rfl) (by kernel_rfl) (fun _ _ _ h => h) (Or.inl ⟨by rfl, ?_⟩) (by assumption) ?_
        · intro w' hSw'
          have d0 := MB.out w' hSw'
          go_simp
        simp only [Act.put, List.setIfInBounds_toArray, List.set_cons_zero, List.set_cons_succ]
        refine takeH (i := 4) 31 (v := .pointer (some ⟨wr.heap.size, 0, none⟩)) rfl rfl (by kernel_rfl) (by kernel_rfl) (by kernel_rfl) (fun _ _ _ h => h) (Or.inl ⟨by rfl, ?_⟩) (by assumption) ?_
        · intro w' hSw'
          go_simp
        simp only [Act.put, List.setIfInBounds_toArray, List.set_cons_zero, List.set_cons_succ]
        refine takeH (i := 5) 32 (v := .string ⟨nm.toArray⟩) rfl rfl (by kernel_rfl) (by kernel_rfl) (by kernel_rfl) (fun _ _ _ h => h) (Or.inl ⟨by rfl, ?_⟩) (by assumption) ?_
        · intro w' hSw'
          obtain ⟨e0, e1, e2⟩ := FB.out w' hSw'
          go_simp
        simp only [Act.put, List.setIfInBounds_toArray, List.set_cons_zero, List.set_cons_succ]
        refine wpAnyH_ready (rs := [6, 10]) (by kernel_rfl) (by simp) ?_
        refine AllReadyH.cons rfl (fun K hK => ?_) (AllReadyH.cons rfl (fun K hK => ?_) AllReadyH.nil)
        · have hl := HL.out _ (Below.refl _ _).drew
          go_simp
          refine hK.out _ _ ((Below.refl _ _).drew) (fun hA1 => ?_)
          clear hK K
          refine takeH (i := 7) 26 (v := .tuple #[.agg #[.int .i64 zs, .slice za zk zc], .bool ob]) rfl rfl (by kernel_rfl) (by kernel_rfl) (by kernel_rfl) (fun _ _ _ h => h) (Or.inl ⟨by rfl, ?_⟩) (by assumption) ?_
          · intro w' hSw'
            go_simp
          simp only [Act.put, List.setIfInBounds_toArray, List.set_cons_zero, List.set_cons_succ]
          refine takeH (i := 8) 34 (v := .agg #[.int .i64 zs, .slice za zk zc]) rfl rfl (by kernel_rfl) (by kernel_rfl) (by kernel_rfl) (fun _ _ _ h => h) (Or.inl ⟨by rfl, ?_⟩) (by assumption) ?_
          · intro w' hSw'
            go_simp
          simp only [Act.put, List.setIfInBounds_toArray, List.set_cons_zero, List.set_cons_succ]
          refine takeH (i := 9) 35 (v := .bool ob) rfl rfl (by kernel_rfl) (by kernel_rfl) (by kernel_rfl) (fun _ _ _ h => h) (Or.inl ⟨by rfl, ?_⟩) (by assumption) ?_
          · intro w' hSw'
            go_simp
          simp only [Act.put, List.setIfInBounds_toArray, List.set_cons_zero, List.set_cons_succ]
          refine wpAnyH_ready (rs := [10]) (by kernel_rfl) (by simp) ?_
          refine AllReadyH.cons rfl (fun K hK => ?_) AllReadyH.nil
          go_simp
          refine hK.out _ _ (((Below.refl _ _).alloc (Nat.le_refl _) _).drew) (fun hA2 => ?_)
          clear hK K
          refine wpAnyH_ready (rs := [11]) (by kernel_rfl) (by simp) ?_
          refine AllReadyH.cons rfl (fun K hK => ?_) AllReadyH.nil
          go_simp
          refine hK.out _ _ (((Below.refl _ _).alloc (Nat.le_refl _) _).drew) (fun hA3 => ?_)
          clear hK K
          refine takeH (i := 12) 11 (v := .bool ob) rfl rfl (by kernel_rfl) (by kernel_rfl) (by kernel_rfl) (fun _ _ _ h => h) (Or.inl ⟨by rfl, ?_⟩) (by assumption) ?_
          · intro w' hSw'
            go_simp
          simp only [Act.put, List.setIfInBounds_toArray, List.set_cons_zero, List.set_cons_succ]
          refine wpAnyH_done (by kernel_rfl) ?_ _
          exact ⟨(by simp only [sets, Act.put, List.setIfInBounds_toArray, List.set_cons_zero, List.set_cons_succ]; all_goals rfl), rfl⟩
        · go_simp
          refine hK.out _ _ (((Below.refl _ _).alloc (Nat.le_refl _) _).drew) (fun hA1 => ?_)
          clear hK K
          refine wpAnyH_ready (rs := [6]) (by kernel_rfl) (by simp) ?_
          refine AllReadyH.cons rfl (fun K hK => ?_) AllReadyH.nil
          have hl := HL.out _ (((Below.refl WA.heap.size WA).alloc (Nat.le_refl _) (.cells #[.int .i64 0, .slice none 0 0] 95)).drew)
          go_simp
          refine hK.out _ _ (((Below.refl _ _).alloc (Nat.le_refl _) _).drew) (fun hA2 => ?_)
          clear hK K
          refine takeH (i := 7) 26 (v := .tuple #[.agg #[.int .i64 zs, .slice za zk zc], .bool ob]) rfl rfl (by kernel_rfl) (by kernel_rfl) (by kernel_rfl) (fun _ _ _ h => h) (Or.inl ⟨by rfl, ?_⟩) (by assumption) ?_
          · intro w' hSw'
            go_simp
          simp only [Act.put, List.setIfInBounds_toArray, List.set_cons_zero, List.set_cons_succ]
          refine takeH (i := 8) 34 (v := .agg #[.int .i64 zs, .slice za zk zc]) rfl rfl (by kernel_rfl) (by kernel_rfl) (by kernel_rfl) (fun _ _ _ h => h) (Or.inl ⟨by rfl, ?_⟩) (by assumption) ?_
          · intro w' hSw'
            go_simp
          simp only [Act.put, List.setIfInBounds_toArray, List.set_cons_zero, List.set_cons_succ]
          refine takeH (i := 9) 35 (v := .bool ob) rfl rfl (by kernel_rfl) (by kernel_rfl) (by kernel_rfl) (fun _ _ _ h => h) (Or.inl ⟨by rfl, ?_⟩) (by assumption) ?_
          · intro w' hSw'
            go_simp
          simp only [Act.put, List.setIfInBounds_toArray, List.set_cons_zero, List.set_cons_succ]
          refine wpAnyH_ready (rs := [11]) (by kernel_rfl) (by simp) ?_
          refine AllReadyH.cons rfl (fun K hK => ?_) AllReadyH.nil
          go_simp
          refine hK.out _ _ (((Below.refl _ _).alloc (Nat.le_refl _) _).drew) (fun hA3 => ?_)
          clear hK K
          refine takeH (i := 12) 11 (v := .bool ob) rfl rfl (by kernel_rfl) (by kernel_rfl) (by kernel_rfl) (fun _ _ _ h => h) (Or.inl ⟨by rfl, ?_⟩) (by assumption) ?_
          · intro w' hSw'
            go_simp
          simp only [Act.put, List.setIfInBounds_toArray, List.set_cons_zero, List.set_cons_succ]
          refine wpAnyH_done (by kernel_rfl) ?_ _
          exact ⟨(by simp only [sets, Act.put, List.setIfInBounds_toArray, List.set_cons_zero, List.set_cons_succ]; all_goals rfl), rfl⟩
      rintro a' w5 ⟨rfl, hw5⟩
      simp only [sets, Act.put, List.setIfInBounds_toArray, List.set_cons_zero, List.set_cons_succ]
      have hw5' := hw5
      have b5 : Hid (Below WA.heap.size WA w5) := by rw [hw5]; exact ((Below.refl _ _).alloc (Nat.le_refl _) _).drew
      clear hw5 hw5'
      obtain ⟨e0, e1, e2⟩ := FB.out w5 b5.out
      cases ob with
      | true =>
        have OB : Hid (okE x ⟨nm, sf, p, k, bs⟩ = false) := by show _ = _; unfold okE; simp [OBL.out]
        go_wp2
        go_ret2
        exact ⟨UP.out _ (bA.out.trans (b5.out.mono bA.out.size)), .inl ⟨1, by unfold ldOf; rw [if_neg CC.out, ldAll_bad HY.out HI.out.1 OB.out], rfl⟩⟩
      | false =>
        have WH := keep (whole_any nm sf p bs.length k w5)
        go_wp2_with fail
        refine WH.out.mono ?_
        rintro e w6 ⟨rfl, hb6⟩
        have b6 : Hid (Below WA.heap.size WA w6) := b5.out.trans (hb6.mono b5.out.size)
        clear hb6 e0 e1 e2 WH
        have EQ : Hid (okE x ⟨nm, sf, p, k, bs⟩ = (Dk.named nm && decide (0 ≤ sf) && decide (sf ≤ (bs.length : Int)))) := by show _ = _; unfold okE; simp [OBL.out]
        obtain ⟨r, hr⟩ : ∃ r, (Dk.named nm && decide (0 ≤ sf) && decide (sf ≤ (bs.length : Int))) = r := ⟨_, rfl⟩
        rw [hr] at EQ ⊢
        clear hr
        cases r with
        | false =>
          go_wp2
          go_ret2
          exact ⟨UP.out _ (bA.out.trans (b6.out.mono bA.out.size)), .inl ⟨1, by unfold ldOf; rw [if_neg CC.out, ldAll_bad HY.out HI.out.1 EQ.out], rfl⟩⟩
        | true =>
          have NX := keep (ldAll_next HY.out HI.out.1 EQ.out)
          have NU := keep (LX.out.1.next EQ.out)
          have NN := keep (okE_true EQ.out)
          obtain ⟨sn, rfl⟩ : ∃ sn : Nat, sf = (sn : Int) := ⟨sf.toNat, by have := NN.out.2.2.1; simp only at this; omega⟩
          have NM : Hid (nm.length ≤ 100) := (named_true NN.out.1).2.1
          have BW : Hid (Below wr.heap.size wr w6) := bA.out.trans (b6.out.mono bA.out.size)
          have HX : Hid (Src w6.drew p bs.length k bs) := (HH.out _ BW.out.drew)
          have CLN := keep (clone_any p bs.length k bs w6.drew BY.out HX.out)
          have KEY : Hid (∀ v4 w4, New w6.drew w4 v4 bs.length bs → ∃ ao4 c4, v4 = .slice ao4 bs.length c4 ∧ (w4.cell? ⟨b, 0, none⟩ = some (.map (some m)) ∧ w4.cell? ⟨wr.heap.size, 0, none⟩ = some (.string ⟨nm.toArray⟩) ∧ w4.cell? ⟨wr.heap.size, 1, none⟩ = some (.int .i64 (sn : Int)) ∧ w4.cell? ⟨wr.heap.size, 2, none⟩ = some (.slice p bs.length k)) ∧
              ∃ w7, (Instr.mapUpdate 85 (.map (some m)) (.string ⟨nm.toArray⟩) (.agg #[.int .i64 (sn : Int), .slice ao4 bs.length c4])).run Tryz.prog w4 = .ok () w7 ∧ (w7.cell? ⟨b, 0, none⟩ = some (.map (some m)) ∧ w7.cell? ⟨wr.heap.size, 0, none⟩ = some (.string ⟨nm.toArray⟩) ∧ w7.cell? ⟨wr.heap.size, 1, none⟩ = some (.int .i64 (sn : Int)) ∧ w7.cell? ⟨wr.heap.size, 2, none⟩ = some (.slice p bs.length k)) ∧
              w7.cell? ⟨b, 1, none⟩ = some (.int .i64 ((N : Int) - (Dk.used x : Int))) ∧ (∀ i, w7.frozen? ⟨b, i, none⟩ = false) ∧ Hid (∀ free', ∃ S' l', LdAt w.heap.size S' (w7.drew.setCell ⟨b, 1, none⟩ (.int .i64 free')) b m l' free' (Dk.put x ⟨nm, sn, bs⟩) ∧ Below w.heap.size w (w7.drew.setCell ⟨b, 1, none⟩ (.int .i64 free')))) := by
            intro v4 w4 hn4
            obtain ⟨ao4, c4, rfl, _, _⟩ := hn4.src
            have q4 : Below WA.heap.size WA w4 := b6.out.trans (((Below.refl _ _).drew.trans hn4.2).mono b6.out.size)
            have r4 : Below wr.heap.size wr w4 := bA.out.trans (q4.mono bA.out.size)
            have L4 := HI.out.2.1.below r4
            obtain ⟨w7, hrun7, hmap7, hg7⟩ := L4.map.store Tryz.underlying9 Tryz.underlying85 nm NL.out LN.out (.agg #[.int .i64 (sn : Int), .slice ao4 bs.length c4])
            have hml : m < wr.heap.size := HI.out.2.1.lt m HI.out.2.1.foot.mine
            have hbm : ¬ b = m := fun e => L4.out (by rw [e]; exact L4.foot.mine)
            have hbx7 := L4.box.same (hg7.block b L4.box.lt (fun e => hbm (Option.some.inj e)))
            obtain ⟨f0, f1, f2⟩ := FB.out w4 q4
            have nf : some wr.heap.size ≠ some m := fun e => by have := Option.some.inj e; omega
            refine ⟨ao4, c4, rfl, ⟨MB.out w4 q4, f0, f1, f2⟩, w7, hrun7, ⟨hbx7.c0, hg7.cell f0 nf, hg7.cell f1 nf, hg7.cell f2 nf⟩, hbx7.c1, hbx7.warm, fun free' => ?_⟩
            have ho4 : w4.ownsRow wr.heap.size 5 1 (.slice ao4 bs.length c4) bs.length (bv bs) := own_base hn4.1 (fun g hg => Nat.le_trans BW.out.size (hn4.1.lt g hg).1)
            have hg8 : w4.grownBy w7.drew (some m) := ⟨hg7.os, hg7.tape, hg7.output, hg7.size, hg7.block⟩
            obtain ⟨k1, k2⟩ := HI.out.2.1.laid HI.out.2.2.size r4 ho4 (hmap7.same (w' := w7.drew) rfl) hg8 free'
            exact ⟨_, _, k1, HI.out.2.2.trans k2⟩
          have US2 : Hid ((N : Int) - (Dk.used x : Int) - (16 + (nm.length : Int) + (bs.length : Int)) = (N : Int) - (Dk.used (Dk.put x ⟨nm, sn, bs⟩) : Int)) := by
            have h1 := NU.out.2.2.2
            have h2 : Dk.used (Dk.put x (ldE ⟨nm, (sn : Int), p, k, bs⟩)) = Dk.used (Dk.put x ⟨nm, sn, bs⟩) := rfl
            simp only at h1
            show _ = _
            omega
          have WR : IntKind.i64.wrap ((N : Int) - (Dk.used x : Int) - (16 + (nm.length : Int) + (bs.length : Int))) = (N : Int) - (Dk.used (Dk.put x ⟨nm, sn, bs⟩) : Int) := by
            rw [wrap_small _ (by have h1 := US.out; have h2 := BY.out; have h3 := NM.out; have h4 := NB.out; omega) (by have h1 := US.out; have h2 := BY.out; have h3 := NM.out; have h4 := NB.out; omega)]
            exact US2.out
          have WR' := keep WR
          clear WR
          obtain ⟨e0, e1, e2⟩ := FB.out w6 b6.out
          have m0 := MB.out w6 b6.out
          have m0d : w6.drew.cell? ⟨b, 0, none⟩ = some (.map (some m)) := MB.out _ b6.out.drew
          go_wp2_with fail
          refine wp_region_held_drew (S := fun w' => w'.cell? ⟨b, 0, none⟩ = some (.map (some m)) ∧ w'.cell? ⟨wr.heap.size, 0, none⟩ = some (.string ⟨nm.toArray⟩) ∧ w'.cell? ⟨wr.heap.size, 1, none⟩ = some (.int .i64 (sn : Int)) ∧ w'.cell? ⟨wr.heap.size, 2, none⟩ = some (.slice p bs.length k)) (by kernel_rfl) (by exact ⟨m0d, FB.out _ b6.out.drew⟩) (fun hHeld => ?_)
          refine takeH (i := 0) 42 (v := .pointer (some ⟨b, 0, none⟩)) rfl rfl (by kernel_rfl) (by kernel_rfl) (by kernel_rfl) (fun _ _ _ h => h) (Or.inl ⟨by rfl, ?_⟩) (by assumption) ?_
          · intro w' hSw'
            go_simp
          simp only [Act.put, List.setIfInBounds_toArray, List.set_cons_zero, List.set_cons_succ]
          refine takeH (i := 1) 43 (v := .pointer (some ⟨b, 0, none⟩)) rfl rfl (by kernel_rfl) (by kernel_rfl) (by kernel_rfl) (fun _ _ _ h => h) (Or.inl ⟨by rfl, ?_⟩) (by assumption) ?_
          · intro w' hSw'
            go_simp
          simp only [Act.put, List.setIfInBounds_toArray, List.set_cons_zero, List.set_cons_succ]
          refine takeH (i := 2) 44 (v := .pointer (some ⟨b, 0, none⟩)) rfl rfl (by kernel_rfl) (by kernel_rfl) (by kernel_rfl) (fun _ _ _ h => h) (Or.inl ⟨by rfl, ?_⟩) (by assumption) ?_
          · intro w' hSw'
            go_simp
          simp only [Act.put, List.setIfInBounds_toArray, List.set_cons_zero, List.set_cons_succ]
          refine takeH (i := 3) 45 (v := .map (some m)) rfl rfl (by kernel_rfl) (by kernel_rfl) (by kernel_rfl) (fun _ _ _ h => h) (Or.inl ⟨by rfl, ?_⟩) (by assumption) ?_
          · intro w' hSw'
            obtain ⟨d0, d1, d2, d3⟩ := hSw'
            go_simp
          simp only [Act.put, List.setIfInBounds_toArray, List.set_cons_zero, List.set_cons_succ]
          refine takeH (i := 4) 46 (v := .pointer (some ⟨wr.heap.size, 0, none⟩)) rfl rfl (by kernel_rfl) (by kernel_rfl) (by kernel_rfl) (fun _ _ _ h => h) (Or.inl ⟨by rfl, ?_⟩) (by assumption) ?_
          · intro w' hSw'
            go_simp
          simp only [Act.put, List.setIfInBounds_toArray, List.set_cons_zero, List.set_cons_succ]
          refine takeH (i := 5) 47 (v := .string ⟨nm.toArray⟩) rfl rfl (by kernel_rfl) (by kernel_rfl) (by kernel_rfl) (fun _ _ _ h => h) (Or.inl ⟨by rfl, ?_⟩) (by assumption) ?_
          · intro w' hSw'
            obtain ⟨d0, d1, d2, d3⟩ := hSw'
            go_simp
          simp only [Act.put, List.setIfInBounds_toArray, List.set_cons_zero, List.set_cons_succ]
          refine takeH (i := 6) 48 (v := .pointer (some ⟨wr.heap.size, 1, none⟩)) rfl rfl (by kernel_rfl) (by kernel_rfl) (by kernel_rfl) (fun _ _ _ h => h) (Or.inl ⟨by rfl, ?_⟩) (by assumption) ?_
          · intro w' hSw'
            go_simp
          simp only [Act.put, List.setIfInBounds_toArray, List.set_cons_zero, List.set_cons_succ]
          refine takeH (i := 7) 49 (v := .int .i64 (sn : Int)) rfl rfl (by kernel_rfl) (by kernel_rfl) (by kernel_rfl) (fun _ _ _ h => h) (Or.inl ⟨by rfl, ?_⟩) (by assumption) ?_
          · intro w' hSw'
            obtain ⟨d0, d1, d2, d3⟩ := hSw'
            go_simp
          simp only [Act.put, List.setIfInBounds_toArray, List.set_cons_zero, List.set_cons_succ]
          refine takeH (i := 8) 50 (v := .pointer (some ⟨wr.heap.size, 2, none⟩)) rfl rfl (by kernel_rfl) (by kernel_rfl) (by kernel_rfl) (fun _ _ _ h => h) (Or.inl ⟨by rfl, ?_⟩) (by assumption) ?_
          · intro w' hSw'
            go_simp
          simp only [Act.put, List.setIfInBounds_toArray, List.set_cons_zero, List.set_cons_succ]
          refine takeH (i := 9) 51 (v := .slice p bs.length k) rfl rfl (by kernel_rfl) (by kernel_rfl) (by kernel_rfl) (fun _ _ _ h => h) (Or.inl ⟨by rfl, ?_⟩) (by assumption) ?_
          · intro w' hSw'
            obtain ⟨d0, d1, d2, d3⟩ := hSw'
            go_simp
          simp only [Act.put, List.setIfInBounds_toArray, List.set_cons_zero, List.set_cons_succ]
          refine wpAnyH_ready (rs := [10]) (by kernel_rfl) (by simp) ?_
          refine AllReadyH.cons rfl (fun K hK => ?_) AllReadyH.nil
          go_simp
          refine (CLN.out).mono ?_
          rintro e w4 ⟨v4, rfl, hn4⟩
          obtain ⟨ao4, c4, rfl, q4, w7, hrun7, q7, u1, u2, FIN⟩ := KEY.out v4 w4 hn4
          clear hn4
          go_wp2_with fail
          refine hK.out _ _ (q4) (fun hHeld1 => ?_)
          clear hK K
          refine takeH (i := 11) 53 (v := .agg #[.int .i64 (sn : Int), .slice ao4 bs.length c4]) rfl rfl (by kernel_rfl) (by kernel_rfl) (by kernel_rfl) (fun _ _ _ h => h) (Or.inl ⟨by rfl, ?_⟩) (by assumption) ?_
          · intro w' hSw'
            go_simp
          simp only [Act.put, List.setIfInBounds_toArray, List.set_cons_zero, List.set_cons_succ]
          refine wpAnyH_ready (rs := [12]) (by kernel_rfl) (by simp) ?_
          refine AllReadyH.cons rfl (fun K hK => ?_) AllReadyH.nil
          go_simp
          refine hK.out _ _ (q7) (fun hHeld2 => ?_)
          clear hK K
          refine wpAnyH_done (by kernel_rfl) ?_ _
          clear e0 e1 e2 m0 m0d
          obtain ⟨g0, g1, g2, g3⟩ := q7
          have CO := keep (fun w' => cost_any nm p bs.length k w' (by have := NM.out; omega) (by have := BY.out; omega))
          go_wp2_with fail
          have u1d : w7.drew.cell? ⟨b, 1, none⟩ = some (.int .i64 ((N : Int) - (Dk.used x : Int))) := u1
          have u2d : ∀ i, w7.drew.frozen? ⟨b, i, none⟩ = false := u2
          have g1d : w7.drew.cell? ⟨wr.heap.size, 0, none⟩ = some (.string ⟨nm.toArray⟩) := g1
          have g3d : w7.drew.cell? ⟨wr.heap.size, 2, none⟩ = some (.slice p bs.length k) := g3
          go_region_with (first | (go_at_call 70; refine (CO.out _).mono ?_; rintro e w' ⟨rfl, rfl⟩) | fail)
          all_goals rw [WR'.out]
          all_goals obtain ⟨S', l', k1, k2⟩ := FIN.out ((N : Int) - (Dk.used (Dk.put x ⟨nm, sn, bs⟩) : Int))
          all_goals have K1 := keep k1
          all_goals have K2 := keep k2
          all_goals clear k1 k2 u1 u2 u1d u2d g0 g1 g2 g3 g1d g3d
          all_goals go_wp2
          all_goals go_roundw
          all_goals first | exact ⟨t + 1, _, S', l', by omega, by first | rfl | go_num, NX.out, K1.out, K2.out⟩ | (simp [intOf]; omega)
    · obtain rfl : t = n := by omega
      have LA : Hid (ldAll [] es = some x) := by
        have h1 := HI.out.1
        rw [List.take_of_length_le (by rw [HL.out]; exact Nat.le_refl _)] at h1
        exact h1
      have hc1 := HI.out.2.1.box.c1
      by_cases hu : (N : Int) - (Dk.used x : Int) < 0
      · have E4 : Hid (ldOf (N : Int) es = .inl 4) := by
          show _ = _
          unfold ldOf
          rw [if_neg CC.out, LA.out]
          show (if _ then _ else _) = _
          rw [if_pos (by omega)]
        go_wp2
        go_ret2
        exact ⟨HI.out.2.2, .inl ⟨4, E4.out, rfl⟩⟩
      · have E0 : Hid (ldOf (N : Int) es = .inr ⟨N, x, 0, none, false⟩) := by
          show _ = _
          unfold ldOf
          rw [if_neg CC.out, LA.out]
          show (if _ then _ else _) = _
          rw [if_neg (by omega)]
          rfl
        have UL : Hid (Dk.used x ≤ N) := by show _ ≤ _; omega
        go_wp2
        go_ret2
        have hI := HI.out.2.1
        exact ⟨HI.out.2.2, .inr ⟨S, b, _, E0.out, rfl, ⟨m, l, -1, LX.out.1.good UL.out, NB.out, hI.box, hI.map, hI.rel, hI.foot, hI.out, hI.lt, fun _ => rfl, by omega⟩, hI.news, hI.at_⟩⟩
end Go.Proofs.YthnebhddakfadaaGreatDoor
