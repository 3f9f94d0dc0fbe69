/- The walk of the document's Prune. -/
import Derived.Test.YtgdggeacjfhkkaaNv
import Derived.Test.YtgdggeacjfhkkaaMa
namespace Go.Proofs.Ytgdggeacjfhkkaa
open Go.RowKit
open Sk (Ent)

theorem infoB : (Try.prog.info? 4).map (fun i => (i.zero, i.size, i.bytes)) = some (some (.bool false), 1, 1) := by kernel_rfl
/-- A row of flags. -/
def kv (f : Nat → Bool) (M : Nat) : List Value := (List.range M).map fun i => Value.bool (f i)
theorem kv_congr {f f' : Nat → Bool} {M : Nat} (h : ∀ i, i < M → f i = f' i) : kv f M = kv f' M := List.map_congr_left fun i hi => by rw [h i (List.mem_range.1 hi)]
theorem kv_false (M : Nat) : List.replicate M (Value.bool false) = kv (fun _ => false) M := by
  unfold kv
  induction M with
  | zero => rfl
  | succ M ih => rw [List.range_succ, List.map_append, ← ih, List.replicate_succ']; rfl
theorem kv_at {f : Nat → Bool} {M i : Nat} (h : i < M) : (kv f M)[i]? = some (.bool (f i)) := by
  unfold kv
  rw [List.getElem?_map, List.getElem?_range h]
  rfl
theorem kv_put (f : Nat → Bool) (M j : Nat) : (kv f M).set j (.bool true) = kv (fun i => f i || (i == j)) M := by
  refine List.ext_getElem? fun i => ?_
  rw [List.getElem?_set]
  by_cases hi : i < M
  · rw [kv_at hi, kv_at hi]
    by_cases h : j = i
    · subst h
      rw [if_pos rfl, if_pos (by unfold kv; simpa using hi)]
      simp
    · rw [if_neg h]
      have : (i == j) = false := by simpa using fun e => h e.symm
      rw [this, Bool.or_false]
  · have h1 : (kv (fun i => f i || (i == j)) M)[i]? = none := List.getElem?_eq_none_iff.2 (by unfold kv; simp; omega)
    have h2 : (kv f M)[i]? = none := List.getElem?_eq_none_iff.2 (by unfold kv; simp; omega)
    rw [h1, h2]
    by_cases h : j = i
    · subst h
      rw [if_pos rfl, if_neg (by unfold kv; simp; omega)]
    · rw [if_neg h]
/-- The flags of a key's entries in memory. -/
structure KeepI (wo : World) (g M : Nat) (f : Nat → Bool) (wr : World) : Prop where
  below : Below wo.heap.size wo wr
  row : wr.ownsRow wo.heap.size 4 1 (.slice (some ⟨g, 0, none⟩) M M) M (kv f M)
theorem KeepI.cell {wo wr : World} {g M : Nat} {f : Nat → Bool} (h : KeepI wo g M f wr) {i : Nat} (hi : i < M) : wr.cell? ⟨g, i, none⟩ = some (.bool (f i)) ∧ wr.frozen? ⟨g, i, none⟩ = false := by
  obtain ⟨cs, hcs⟩ := own_tag h.row rfl
  refine ⟨?_, by simp [World.frozen?, hcs]⟩
  have := h.row.cells rfl i (.bool (f i)) (kv_at hi)
  rwa [Addr.add_mid, Nat.zero_add] at this
theorem KeepI.to {wo wr w' : World} {g M : Nat} {f : Nat → Bool} (h : KeepI wo g M f wr) (hb : Below wr.heap.size wr w') : KeepI wo g M f w' :=
  ⟨h.below.trans (hb.mono h.below.size), own_block h.row (fun j hj => hb.block j (own_size h.row hj))⟩
theorem KeepI.put {wo wr : World} {g M : Nat} {f f' : Nat → Bool} (h : KeepI wo g M f wr) {i : Nat} (hf : ∀ j, j < M → f' j = (f j || (j == i))) : KeepI wo g M f' (wr.setCell ⟨g, i, none⟩ (.bool true)) := by
  have h1 := own_set1 (i := i) h.row (.bool true)
  rw [kv_put] at h1
  refine ⟨h.below.setCell (h.row.lt g rfl).1 _, ?_⟩
  rw [kv_congr hf]
  exact h1
theorem KeepI.as {wo wr : World} {g M : Nat} {f f' : Nat → Bool} (h : KeepI wo g M f wr) (hf : ∀ j, j < M → f' j = f j) : KeepI wo g M f' wr := ⟨h.below, by rw [kv_congr hf]; exact h.row⟩
theorem KeepI.made {wo w3 : World} {M : Nat} (ho : w3.ownsRow wo.heap.size 4 1 (.slice (some ⟨wo.heap.size, 0, none⟩) M M) M (madeCells (Value.bool false).cells (M * 1)).toList) (hg : wo.grownBy w3 none) : KeepI wo wo.heap.size M (fun _ => false) w3 := by
  rw [show (Value.bool false).cells = #[.bool false] from rfl, toList_madeCells_one, Nat.mul_one, kv_false] at ho
  exact ⟨(Below.refl _ _).grown hg (Nat.le_refl _) (fun k h => by cases h), ho⟩
theorem int_cellM {w : World} {b off n c : Nat} {zs : List Int} (h : RSrc inK w (some ⟨b, off, none⟩) n c zs) {i : Nat} {x : Int} (hx : zs[i]? = some x) : w.cell? ⟨b, off + i, none⟩ = some (.int .i64 x) := by
  have := h.cells _ rfl (i * inK.size + 0) (.int .i64 x) ((rv_at inK_ok 0 hx (by decide)).trans rfl)
  rw [Addr.add_mid] at this
  simpa [inK] using this
def lenOf : Value → Nat
  | .slice _ n _ => n
  | _ => 0

set_option maxHeartbeats 2500000 in
set_option maxRecDepth 100000 in
theorem rprune_any (ao : Option Addr) (n c : Nat) (es : List EV) (p : Option Addr) (N C : Nat) (zs : List Int) (bottom : Bool) (w : World) (hs : RSrc entKind w ao n c es) (hz : RSrc inK w p N C zs) (hn : n ≤ 1000000) (hN : N ≤ 1000000) (hsm : ∀ y ∈ es, y.e.key.length ≤ 140737488355328 ∧ y.e.val.length ≤ 140737488355328) :
    Calls Try.prog 16 #[.slice ao n c, .slice p N C, .bool bottom] w fun e w' => ∃ v ys, e = .returned v ∧ Ents w.heap.size w' v ys ∧ ys.map (·.e) = Mg.prune (es.map (·.e)) zs bottom ∧ Below w.heap.size w w' := by
  obtain ⟨i0, hi0, hz0, hz1, hz2⟩ := info_parts3 infoE
  obtain ⟨b0, hb0, hx0, hx1, hx2⟩ := info_parts3 infoB
  have HLEN := keep hs.len
  have HZL := keep hz.len
  have SM := keep hsm
  have PA := keep (rgroups_any ao n c es w hs hn)
  have HZ := keep hz
  clear hs hsm hz
  go_enter Try.func16, Try.ntmps16
  go_wp2_with fail
  refine PA.out.mono ?_
  rintro e w2 ⟨v, ls, rfl, ho, hh, hval, hln, hb⟩
  have B2 := keep hb
  have PZ := keep (HZ.out.below inK_ok hb)
  obtain ⟨lp, lc, rfl, hsr, _⟩ := RSrc.own listKind_ok ho (fun y hy => (hh y hy).1)
  have SR := keep hsr
  have VL := keep hval
  obtain ⟨L, hNl⟩ : ∃ L, ls.length = L := ⟨_, rfl⟩
  rw [hNl] at SR hln ⊢
  have HN := keep hNl
  clear ho hh hval hb hsr PA hNl
  go_wp2
  go_loopw [7, 9] (fun v i wr => ∃ (k : Nat) (ys : List EV), k ≤ L ∧ i = .int .i64 (k : Int) ∧ Hid (FlatI w2 (Mg.kept zs bottom) ls k ys v wr)) (fun _ i _ => L - (intOf i).toNat)
  case atStart => exact ⟨0, [], Nat.zero_le _, rfl, ⟨Ents.nil _ _, by simp [lents], Below.refl _ _⟩⟩
  case round =>
    obtain ⟨k, ys, hk, rfl, hI⟩ := hrel
    have HB := keep hI.out.below
    have hyl : ys.length ≤ 1000000 := by
      have h1 := flat_len (Mg.kept_len zs bottom) ls k
      rw [← hI.out.val, VL.out, Mg.parts_flat, List.length_map] at h1
      have := HLEN.out
      omega
    by_cases hkn : k < L
    · obtain ⟨lb, loff, rfl, _, _⟩ := SR.out.form listKind_ok (by omega)
      obtain ⟨y, hy⟩ : ∃ y, ls[k]? = some y := ⟨ls[k]'(by rw [HN.out]; exact hkn), List.getElem?_eq_getElem _⟩
      have hym := List.mem_of_getElem? hy
      have p0 := list_cell (SR.out.below listKind_ok HB.out) hy
      have R3 := (SR.out.below listKind_ok HB.out).held y hym
      have YM : Hid (∀ z ∈ y.es, z.e.key.length ≤ 140737488355328 ∧ z.e.val.length ≤ 140737488355328) := fun z hz => SM.out z (part_mem VL.out hym hz)
      have hyn : y.es.length ≤ 1000000 := by
        have h1 : y.es.length ≤ (Mg.parts (fun x y : EV => Mg.oneKey x.e y.e) es).flatten.length := by
          rw [← VL.out]
          exact (List.sublist_flatten_of_mem (List.mem_map.2 ⟨y, hym, rfl⟩)).length_le
        rw [Mg.parts_flat, HLEN.out] at h1
        omega
      have hy0 : 0 < y.es.length := by
        have h1 : y.es ∈ Mg.parts (fun x y : EV => Mg.oneKey x.e y.e) es := by rw [← VL.out]; exact List.mem_map.2 ⟨y, hym, rfl⟩
        exact List.length_pos_iff.2 (Mg.parts_mem _ _ _ h1)
      have FM := keep (flat_more (f := Mg.kept zs bottom) hy)
      obtain ⟨yp, yc, yes⟩ := y
      have YS : Hid (RSrc entKind wr yp yes.length yc yes) := R3
      simp only at p0 YM FM hyn hy0
      obtain ⟨M, hM⟩ : ∃ M, yes.length = M := ⟨_, rfl⟩
      have HM := keep hM
      rw [hM] at p0 YS hyn hy0
      have hM1 : (M : Int) ≤ 1000000 := by omega
      have hM2 : (0 : Int) < (M : Int) := by omega
      have hM3 : (0 : Int) ≤ (M : Int) := by omega
      have ll : (k : Int) < (L : Int) := by omega
      have l0 : (0 : Int) ≤ (k : Int) := by omega
      obtain ⟨wo, hwo⟩ : ∃ wo, wo = wr := ⟨_, rfl⟩
      rw [← hwo] at hI HB YS p0 ⊢
      clear hy hym hM R3 hwo
      go_wp2_with (at_make; go_loud (refine wpList_make_full _ rfl _ _ 59 rfl wo.heap.size 4 b0 (.bool false) 1 Try.underlying59 hb0 hx0 hx1 .i64 .i64 _ _ M rfl rfl rfl rfl (by rw [hx2]; omega) (by unfold maxLen; omega) (Nat.le_refl _) ?_); intro w3 hown hgrow; have K3 := keep (KeepI.made hown hgrow); obtain ⟨c30, f30⟩ := K3.out.cell hy0; clear hown hgrow)
      obtain ⟨W4, hW4⟩ : ∃ W4, w3.setCell ⟨wo.heap.size, 0, none⟩ (.bool true) = W4 := ⟨_, rfl⟩
      have K4 : Hid (KeepI wo wo.heap.size M (Mg.keepF true (yes.map (·.e)) (zs.take 0)) W4) := by
        rw [← hW4]
        exact K3.out.put (fun j _ => by simp [Mg.keepF])
      rw [hW4]
      clear hW4 c30 f30 K3
      go_loopw [11] (fun q wr => ∃ j : Nat, j ≤ N ∧ q = .int .i64 (j : Int) ∧ Hid (KeepI wo wo.heap.size M (Mg.keepF true (yes.map (·.e)) (zs.take j)) wr)) (fun q _ => N - (intOf q).toNat)
      case atStart => exact ⟨0, Nat.zero_le _, rfl, K4.out⟩
      case round =>
        obtain ⟨j, hj, rfl, hK⟩ := hrel
        clear K4
        have BK := keep hK.out.below
        have BK2 := keep (HB.out.trans (BK.out.mono HB.out.size))
        by_cases hjn : j < N
        · obtain ⟨pb, poff, rfl, _, _⟩ := PZ.out.form inK_ok (by omega)
          obtain ⟨pj, hpj⟩ : ∃ x, zs[j]? = some x := ⟨zs[j]'(by rw [HZL.out]; exact hjn), List.getElem?_eq_getElem _⟩
          have CQ : Hid (∀ w', Below wr.heap.size wr w' → w'.cell? ⟨pb, poff + j, none⟩ = some (.int .i64 pj)) := fun w' hb => int_cellM ((PZ.out.below inK_ok BK2.out).below inK_ok hb) hpj
          have CL : Hid (∀ w', Below wr.heap.size wr w' → w'.cell? ⟨lb, loff + k, none⟩ = some (.slice yp M yc)) := fun w' hb => below_cell hb (below_cell BK.out p0)
          have FS0 : Hid (∀ w', Below wr.heap.size wr w' → _) := fun w' hb => rfst_any yp M yc yes pj w' ((YS.out.below entKind_ok BK.out).below entKind_ok hb) hyn
          have KM := keep (fun i => Mg.keepF_more (b := true) (g := yes.map (·.e)) hpj i)
          have j5 : (j : Int) ≤ 1000000 := by omega
          have g0 : (0 : Int) ≤ (j : Int) := by omega
          have g1 : (j : Int) < (N : Int) := by omega
          clear hpj
          cases hf : Mg.fst pj (yes.map (·.e)) with
          | none =>
            have FI : Mg.fstI pj (yes.map (·.e)) = -1 := by unfold Mg.fstI; rw [hf]
            rw [FI] at FS0
            have FS : Hid (∀ w', Below wr.heap.size wr w' → Calls Try.prog 32 #[.slice yp M yc, .int .i64 pj] w' fun e w'' => e = .returned (.int .i64 (-1)) ∧ Below wr.heap.size wr w'') := fun w' hb => (FS0.out w' hb).mono (by rintro e w'' ⟨rfl, rfl⟩; exact ⟨rfl, hb⟩)
            have KN : Hid (∀ i, i < M → Mg.keepF true (yes.map (·.e)) (zs.take (j + 1)) i = Mg.keepF true (yes.map (·.e)) (zs.take j) i) := fun i _ => by rw [KM.out i, hf]; simp
            clear FI hf FS0 KM
            go_wp2_with fail
            refine wp_region_held_drew (S := fun w' => Below wr.heap.size wr w') (by kernel_rfl) ((Below.refl _ _).drew) (fun hZ => ?_)
            refine takeH (i := 0) 37 (v := .slice (some ⟨lb, loff, none⟩) L lc) rfl rfl (by kernel_rfl) (by kernel_rfl) (by kernel_rfl) (fun _ _ _ h => h) (Or.inl ⟨by rfl, ?_⟩) (by assumption) ?_
            · intro w' hSw'
              go_simp
            simp only [Act.put, List.setIfInBounds_toArray, List.set_cons_zero, List.set_cons_succ]
            refine takeH (i := 1) 38 (v := .int .i64 (k : Int)) rfl rfl (by kernel_rfl) (by kernel_rfl) (by kernel_rfl) (fun _ _ _ h => h) (Or.inl ⟨by rfl, ?_⟩) (by assumption) ?_
            · intro w' hSw'
              go_simp
            simp only [Act.put, List.setIfInBounds_toArray, List.set_cons_zero, List.set_cons_succ]
            refine takeH (i := 2) 39 (v := .pointer (some ⟨lb, loff + k, none⟩)) rfl rfl (by kernel_rfl) (by kernel_rfl) (by kernel_rfl) (fun _ _ _ h => h) (Or.inl ⟨by rfl, ?_⟩) (by assumption) ?_
            · intro w' hSw'
              go_simp
            simp only [Act.put, List.setIfInBounds_toArray, List.set_cons_zero, List.set_cons_succ]
            refine takeH (i := 3) 40 (v := .slice yp M yc) rfl rfl (by kernel_rfl) (by kernel_rfl) (by kernel_rfl) (fun _ _ _ h => h) (Or.inl ⟨by rfl, ?_⟩) (by assumption) ?_
            · intro w' hSw'
              have q7 := CL.out w' hSw'
              go_simp
            simp only [Act.put, List.setIfInBounds_toArray, List.set_cons_zero, List.set_cons_succ]
            refine takeH (i := 4) 41 (v := .slice (some ⟨pb, poff, none⟩) N C) rfl rfl (by kernel_rfl) (by kernel_rfl) (by kernel_rfl) (fun _ _ _ h => h) (Or.inl ⟨by rfl, ?_⟩) (by assumption) ?_
            · intro w' hSw'
              go_simp
            simp only [Act.put, List.setIfInBounds_toArray, List.set_cons_zero, List.set_cons_succ]
            refine takeH (i := 5) 42 (v := .int .i64 (j : Int)) rfl rfl (by kernel_rfl) (by kernel_rfl) (by kernel_rfl) (fun _ _ _ h => h) (Or.inl ⟨by rfl, ?_⟩) (by assumption) ?_
            · intro w' hSw'
              go_simp
            simp only [Act.put, List.setIfInBounds_toArray, List.set_cons_zero, List.set_cons_succ]
            refine takeH (i := 6) 43 (v := .pointer (some ⟨pb, poff + j, none⟩)) rfl rfl (by kernel_rfl) (by kernel_rfl) (by kernel_rfl) (fun _ _ _ h => h) (Or.inl ⟨by rfl, ?_⟩) (by assumption) ?_
            · intro w' hSw'
              go_simp
            simp only [Act.put, List.setIfInBounds_toArray, List.set_cons_zero, List.set_cons_succ]
            refine takeH (i := 7) 44 (v := .int .i64 pj) rfl rfl (by kernel_rfl) (by kernel_rfl) (by kernel_rfl) (fun _ _ _ h => h) (Or.inl ⟨by rfl, ?_⟩) (by assumption) ?_
            · intro w' hSw'
              have q7 := CQ.out w' hSw'
              go_simp
            simp only [Act.put, List.setIfInBounds_toArray, List.set_cons_zero, List.set_cons_succ]
            refine wpAnyH_ready (rs := [8]) (by kernel_rfl) (by simp) ?_
            refine AllReadyH.cons rfl (fun K hK => ?_) AllReadyH.nil
            go_simp
            refine (FS.out _ (Below.refl _ _).drew).mono ?_
            rintro e w8 ⟨rfl, hb8⟩
            have b8 := keep hb8
            clear hb8
            go_wp2_with fail
            refine hK.out _ _ (b8.out) (fun hZ1 => ?_)
            clear hK K
            refine takeH (i := 9) 12 (v := .int .i64 (-1)) rfl rfl (by kernel_rfl) (by kernel_rfl) (by kernel_rfl) (fun _ _ _ h => h) (Or.inl ⟨by rfl, ?_⟩) (by assumption) ?_
            · intro w' hSw'
              go_simp
            simp only [Act.put, List.setIfInBounds_toArray, List.set_cons_zero, List.set_cons_succ]
            refine wpAnyH_done (by kernel_rfl) ?_ _
            have KF := keep ((hK.out.to b8.out).as KN.out)
            go_wp2
            go_roundw
            case rel => exact ⟨j + 1, by omega, by go_num, KF.out⟩
            case measure => simp [intOf]; omega
          | some i =>
            have FI : Mg.fstI pj (yes.map (·.e)) = (i : Int) := by unfold Mg.fstI; rw [hf]
            rw [FI] at FS0
            have FS : Hid (∀ w', Below wr.heap.size wr w' → Calls Try.prog 32 #[.slice yp M yc, .int .i64 pj] w' fun e w'' => e = .returned (.int .i64 (i : Int)) ∧ Below wr.heap.size wr w'') := fun w' hb => (FS0.out w' hb).mono (by rintro e w'' ⟨rfl, rfl⟩; exact ⟨rfl, hb⟩)
            have KN : Hid (∀ t, t < M → Mg.keepF true (yes.map (·.e)) (zs.take (j + 1)) t = (Mg.keepF true (yes.map (·.e)) (zs.take j) t || (t == i))) := fun t _ => by
              rw [KM.out t, hf]
              congr 1
              rw [Bool.eq_iff_iff]
              simp only [beq_iff_eq, Option.some.injEq]
              exact eq_comm
            have hiM : i < M := by
              obtain ⟨x0, hx0, _⟩ := Mg.fst_some pj _ i hf
              have := (List.getElem?_eq_some_iff.1 hx0).1
              rw [List.length_map, HM.out] at this
              exact this
            have i1 : (0 : Int) ≤ (i : Int) := by omega
            have i2 : (i : Int) < (M : Int) := by omega
            clear FI hf FS0 KM
            go_wp2_with fail
            refine wp_region_held_drew (S := fun w' => Below wr.heap.size wr w') (by kernel_rfl) ((Below.refl _ _).drew) (fun hZ => ?_)
            refine takeH (i := 0) 37 (v := .slice (some ⟨lb, loff, none⟩) L lc) rfl rfl (by kernel_rfl) (by kernel_rfl) (by kernel_rfl) (fun _ _ _ h => h) (Or.inl ⟨by rfl, ?_⟩) (by assumption) ?_
            · intro w' hSw'
              go_simp
            simp only [Act.put, List.setIfInBounds_toArray, List.set_cons_zero, List.set_cons_succ]
            refine takeH (i := 1) 38 (v := .int .i64 (k : Int)) rfl rfl (by kernel_rfl) (by kernel_rfl) (by kernel_rfl) (fun _ _ _ h => h) (Or.inl ⟨by rfl, ?_⟩) (by assumption) ?_
            · intro w' hSw'
              go_simp
            simp only [Act.put, List.setIfInBounds_toArray, List.set_cons_zero, List.set_cons_succ]
            refine takeH (i := 2) 39 (v := .pointer (some ⟨lb, loff + k, none⟩)) rfl rfl (by kernel_rfl) (by kernel_rfl) (by kernel_rfl) (fun _ _ _ h => h) (Or.inl ⟨by rfl, ?_⟩) (by assumption) ?_
            · intro w' hSw'
              go_simp
            simp only [Act.put, List.setIfInBounds_toArray, List.set_cons_zero, List.set_cons_succ]
            refine takeH (i := 3) 40 (v := .slice yp M yc) rfl rfl (by kernel_rfl) (by kernel_rfl) (by kernel_rfl) (fun _ _ _ h => h) (Or.inl ⟨by rfl, ?_⟩) (by assumption) ?_
            · intro w' hSw'
              have q7 := CL.out w' hSw'
              go_simp
            simp only [Act.put, List.setIfInBounds_toArray, List.set_cons_zero, List.set_cons_succ]
            refine takeH (i := 4) 41 (v := .slice (some ⟨pb, poff, none⟩) N C) rfl rfl (by kernel_rfl) (by kernel_rfl) (by kernel_rfl) (fun _ _ _ h => h) (Or.inl ⟨by rfl, ?_⟩) (by assumption) ?_
            · intro w' hSw'
              go_simp
            simp only [Act.put, List.setIfInBounds_toArray, List.set_cons_zero, List.set_cons_succ]
            refine takeH (i := 5) 42 (v := .int .i64 (j : Int)) rfl rfl (by kernel_rfl) (by kernel_rfl) (by kernel_rfl) (fun _ _ _ h => h) (Or.inl ⟨by rfl, ?_⟩) (by assumption) ?_
            · intro w' hSw'
              go_simp
            simp only [Act.put, List.setIfInBounds_toArray, List.set_cons_zero, List.set_cons_succ]
            refine takeH (i := 6) 43 (v := .pointer (some ⟨pb, poff + j, none⟩)) rfl rfl (by kernel_rfl) (by kernel_rfl) (by kernel_rfl) (fun _ _ _ h => h) (Or.inl ⟨by rfl, ?_⟩) (by assumption) ?_
            · intro w' hSw'
              go_simp
            simp only [Act.put, List.setIfInBounds_toArray, List.set_cons_zero, List.set_cons_succ]
            refine takeH (i := 7) 44 (v := .int .i64 pj) rfl rfl (by kernel_rfl) (by kernel_rfl) (by kernel_rfl) (fun _ _ _ h => h) (Or.inl ⟨by rfl, ?_⟩) (by assumption) ?_
            · intro w' hSw'
              have q7 := CQ.out w' hSw'
              go_simp
            simp only [Act.put, List.setIfInBounds_toArray, List.set_cons_zero, List.set_cons_succ]
            refine wpAnyH_ready (rs := [8]) (by kernel_rfl) (by simp) ?_
            refine AllReadyH.cons rfl (fun K hK => ?_) AllReadyH.nil
            go_simp
            refine (FS.out _ (Below.refl _ _).drew).mono ?_
            rintro e w8 ⟨rfl, hb8⟩
            have b8 := keep hb8
            clear hb8
            go_wp2_with fail
            refine hK.out _ _ (b8.out) (fun hZ1 => ?_)
            clear hK K
            refine takeH (i := 9) 12 (v := .int .i64 (i : Int)) rfl rfl (by kernel_rfl) (by kernel_rfl) (by kernel_rfl) (fun _ _ _ h => h) (Or.inl ⟨by rfl, ?_⟩) (by assumption) ?_
            · intro w' hSw'
              go_simp
            simp only [Act.put, List.setIfInBounds_toArray, List.set_cons_zero, List.set_cons_succ]
            refine wpAnyH_done (by kernel_rfl) ?_ _
            have K8 := keep (hK.out.to b8.out)
            obtain ⟨c8, f8⟩ := K8.out.cell hiM
            have KF := keep (K8.out.put KN.out)
            go_wp2
            go_roundw
            case rel => exact ⟨j + 1, by omega, by go_num, KF.out⟩
            case measure => simp [intOf]; omega
        · obtain rfl : N = j := by omega
          have KE := hK.out
          rw [List.take_of_length_le (by rw [HZL.out]; exact Nat.le_refl _)] at KE
          have AP := keep (Mg.asked_pick true (yes.map (·.e)) zs)
          obtain ⟨F, hF⟩ : ∃ F, Mg.keepF true (yes.map (·.e)) zs = F := ⟨_, rfl⟩
          rw [hF] at KE AP
          have KK := keep KE
          obtain ⟨wb, hwb⟩ : ∃ wb, wb = wr := ⟨_, rfl⟩
          rw [← hwb] at KK BK BK2 ⊢
          have YB := keep (YS.out.below entKind_ok BK.out)
          have pb0 := below_cell BK.out p0
          have BWB := keep BK.out
          clear hF KE hK hwb YS p0 BK
          go_wp2
          go_loopw [13, 14] (fun v q wr => ∃ (j : Nat) (us : List EV), j ≤ M ∧ q = .int .i64 (j : Int) ∧ Hid (CopI wb (Mg.pickF F ((yes.map (·.e)).take j)) us j v wr)) (fun _ q _ => M - (intOf q).toNat)
          case atStart => exact ⟨0, [], Nat.zero_le _, rfl, Ents.nil _ _, rfl, Below.refl _ _, Nat.le_refl _⟩
          case round =>
            obtain ⟨j, us, hjM, rfl, hC⟩ := hrel
            have BC := keep hC.out.below
            have hul := hC.out.len
            by_cases hjm : j < M
            · have SE := YB.out.below entKind_ok BC.out
              obtain ⟨b, off, rfl, _, _⟩ := YB.out.form entKind_ok (by omega)
              obtain ⟨x, hx⟩ : ∃ x, yes[j]? = some x := ⟨yes[j]'(by rw [HM.out]; exact hjm), List.getElem?_eq_getElem _⟩
              obtain ⟨r0, r1, r2, r3⟩ := ent_cells SE hx
              have xm := List.mem_of_getElem? hx
              have CP := keep (rcopy_any x wr (YM.out x xm).1 (YM.out x xm).2 (SE.held x xm))
              have pb1 := below_cell BC.out pb0
              obtain ⟨kc0, _⟩ := (KK.out.to BC.out).cell hjm
              have TM : Hid (Mg.pickF F ((yes.map (·.e)).take (j + 1)) = Mg.pickF F ((yes.map (·.e)).take j) ++ (if F j then [x.e] else [])) := by
                show _ = _
                rw [take_more (m := x.e) (by rw [List.getElem?_map, hx]; rfl), Mg.pick_snoc, List.length_take, List.length_map, HM.out, Nat.min_eq_left (by omega)]
              have j0 : (0 : Int) ≤ (j : Int) := by omega
              have j1 : (j : Int) < (M : Int) := by omega
              have hul2 : us.length ≤ 1000000 := by omega
              clear hx xm SE
              obtain ⟨xkp, xkc, xvp, xvc, ⟨xkey, xseq, xgone, xval⟩⟩ := x
              unfold ev at CP
              simp only at CP r0 r1 r2 r3 TM
              cases hFj : F j with
              | false =>
                rw [hFj] at kc0
                have TN : Hid (Mg.pickF F ((yes.map (·.e)).take (j + 1)) = Mg.pickF F ((yes.map (·.e)).take j)) := by
                  show _ = _
                  rw [TM.out, hFj, if_neg (by decide), List.append_nil]
                clear hFj TM CP
                go_wp2
                go_roundw
                case rel => exact ⟨j + 1, us, by omega, by go_num, hC.out.row, by rw [hC.out.val, TN.out], BC.out, by omega⟩
                case measure => simp [intOf]; omega
              | true =>
                rw [hFj] at kc0
                have TN : Hid (Mg.pickF F ((yes.map (·.e)).take (j + 1)) = Mg.pickF F ((yes.map (·.e)).take j) ++ [⟨xkey, xseq, xgone, xval⟩]) := by
                  show _ = _
                  rw [TM.out, hFj, if_pos rfl]
                clear hFj TM
                go_wp2_with fail
                refine CP.out.mono ?_
                rintro e w4 ⟨y, rfl, hye, hyo, hb3⟩
                have YE := keep hye
                have A5 := keep ((Below.refl w4.heap.size w4).alloc (Nat.le_refl _) (.cells (entKind.vals y).toArray 36))
                have BW5 := keep (hb3.trans (A5.out.mono hb3.size))
                have E5 := keep (hC.out.row.below BW5.out)
                have BL5 := keep (BC.out.trans (BW5.out.mono BC.out.size))
                have Z5 := keep ((hyo.base BC.out.size).block A5.out)
                have rc := keep (rec_cells (k := entKind) w4 36 y)
                clear hye hyo hb3 CP pb1 r0 r1 r2 r3 kc0
                obtain ⟨ykp, ykc, yvp, yvc, ⟨ykey, yseq, ygone, yval⟩⟩ := y
                simp only
                go_wp2_with (at_builtin; go_loud (refine wpList_append_rec entKind_ok rfl _ _ 24 36 rfl wb.heap.size i0 _ 64 Try.underlying24 hi0 hz0 hz1 hz2 rfl u13 us.length us rfl E5.out.row _ 1 (⟨ykp, ykc, yvp, yvc, ⟨ykey, yseq, ygone, yval⟩⟩ : EV) rfl rc.out (by unfold maxLen; omega) (by omega) (Nat.le_trans BL5.out.size (Nat.le_refl _)) ?_); intro v5 w5 ho5 hg5; have HO5 := keep ho5; have HG5 := keep hg5; have BL6 := keep (BL5.out.grown hg5 BL5.out.size (fun j hj => (E5.out.row.lt j hj).1)); clear ho5 hg5)
                have E6 := keep (E5.out.more Z5.out HO5.out HG5.out)
                go_roundw
                case rel => exact ⟨j + 1, us ++ [⟨ykp, ykc, yvp, yvc, ⟨ykey, yseq, ygone, yval⟩⟩], by omega, by go_num, E6.out, by rw [List.map_append, hC.out.val, TN.out, ← YE.out]; rfl, BL6.out, by rw [List.length_append, List.length_singleton]; omega⟩
                case measure => simp [intOf]; omega
            · obtain rfl : M = j := by omega
              have UV : Hid (us.map (·.e) = Mg.asked true (yes.map (·.e)) zs) := by
                show _ = _
                rw [hC.out.val, AP.out, List.take_of_length_le (by rw [List.length_map, HM.out]; exact Nat.le_refl _)]
              obtain ⟨oa, oc, rfl, hso, hoc⟩ := hC.out.row.src
              have EU := keep hC.out.row
              have SO := keep hso
              obtain ⟨Q, hQ⟩ : ∃ Q, us.length = Q := ⟨_, rfl⟩
              have HQ := keep hQ
              rw [hQ] at SO hul ⊢
              have hQc := SO.out.cap
              have BWC := keep (BWB.out.trans (BC.out.mono BWB.out.size))
              unfold maxLen at hoc
              obtain ⟨wc, hwc⟩ : ∃ wc, wc = wr := ⟨_, rfl⟩
              rw [← hwc] at EU SO BC BWC ⊢
              clear hwc hso hQ hC
              go_wp2
              go_loopw [13] (fun v wr => ∃ j : Nat, j ≤ Q ∧ v = .slice oa j oc ∧ Hid (wr = wc ∧ (bottom = false → j = Q) ∧ Mg.strip (us.map (·.e)) = Mg.strip ((us.take j).map (·.e)))) (fun v _ => lenOf v)
              case atStart => exact ⟨Q, Nat.le_refl _, rfl, rfl, fun _ => rfl, by rw [List.take_of_length_le (by rw [HQ.out]; exact Nat.le_refl _)]⟩
              case round =>
                obtain ⟨j, hjQ, rfl, hS⟩ := hrel
                obtain rfl := hS.out.1
                cases bottom with
                | false =>
                  have hjq := hS.out.2.1 rfl
                  have KP : Hid ((us.take j).map (·.e) = Mg.kept zs false (yes.map (·.e))) := by
                    show _ = _
                    rw [hjq, List.take_of_length_le (by rw [HQ.out]; exact Nat.le_refl _), UV.out]
                    rfl
                  clear hjq hS
                  have US : Hid (RSrc entKind wr oa j oc (us.take j)) := SO.out.head entKind_ok j (by omega)
                  have EO := keep (hI.out.row.below BWC.out)
                  go_wp2_with (at_builtin; go_loud (refine wpList_append_rowsM rfl _ _ 24 36 rfl w2.heap.size i0 _ 4 64 Try.underlying24 hi0 hz0 hz1 hz2 rfl (by decide) u7 ys.length (rv entKind ys) rfl EO.out.row oa j oc (rv entKind (us.take j)) rfl US.out.nil (by rw [rv_length entKind_ok, US.out.len]; rfl) US.out.cells (rv_one entKind_ok _) (by unfold maxLen; omega) (by omega) (Nat.le_trans HB.out.size BWC.out.size) ?_); intro v9 w9 ho9 hg9; have HO9 := keep ho9; have HG9 := keep hg9; clear ho9 hg9)
                  have E9 : Hid (Ents w2.heap.size w9 v9 (ys ++ us.take j)) := EO.out.grow (fun z hz => (EU.out.each z (List.mem_of_mem_take hz)).base (Nat.le_trans HB.out.size BWB.out.size)) (by rw [rv_append, US.out.len]; exact HO9.out) HG9.out
                  have BL9 : Hid (Below w2.heap.size w2 w9) := (HB.out.trans (BWC.out.mono HB.out.size)).grown HG9.out (Nat.le_trans HB.out.size BWC.out.size) (fun j hj => (EO.out.row.lt j hj).1)
                  go_roundw
                  case rel => exact ⟨k + 1, ys ++ us.take j, by omega, by go_num, ⟨E9.out, by rw [List.map_append, hI.out.val, FM.out, KP.out], BL9.out⟩⟩
                  case measure => simp [intOf]; omega
                | true =>
                  rcases Nat.eq_zero_or_pos j with h0 | h0
                  · have KP : Hid ((us.take j).map (·.e) = Mg.kept zs true (yes.map (·.e))) := by
                      show _ = _
                      have h1 := hS.out.2.2
                      rw [h0] at h1 ⊢
                      show _ = Mg.strip (Mg.asked true (yes.map (·.e)) zs)
                      rw [← UV.out, h1]
                      rfl
                    clear hS
                    subst h0
                    have US : Hid (RSrc entKind wr oa 0 oc (us.take 0)) := SO.out.head entKind_ok 0 (by omega)
                    have EO := keep (hI.out.row.below BWC.out)
                    go_wp2_with (at_builtin; go_loud (refine wpList_append_rowsM rfl _ _ 24 36 rfl w2.heap.size i0 _ 4 64 Try.underlying24 hi0 hz0 hz1 hz2 rfl (by decide) u7 ys.length (rv entKind ys) rfl EO.out.row oa 0 oc (rv entKind (us.take 0)) rfl US.out.nil (by rw [rv_length entKind_ok, US.out.len]; rfl) US.out.cells (rv_one entKind_ok _) (by unfold maxLen; omega) (by omega) (Nat.le_trans HB.out.size BWC.out.size) ?_); intro v9 w9 ho9 hg9; have HO9 := keep ho9; have HG9 := keep hg9; clear ho9 hg9)
                    have E9 : Hid (Ents w2.heap.size w9 v9 (ys ++ us.take 0)) := EO.out.grow (fun z hz => (EU.out.each z (List.mem_of_mem_take hz)).base (Nat.le_trans HB.out.size BWB.out.size)) (by rw [rv_append, US.out.len]; exact HO9.out) HG9.out
                    have BL9 : Hid (Below w2.heap.size w2 w9) := (HB.out.trans (BWC.out.mono HB.out.size)).grown HG9.out (Nat.le_trans HB.out.size BWC.out.size) (fun j hj => (EO.out.row.lt j hj).1)
                    go_roundw
                    case rel => exact ⟨k + 1, ys ++ us.take 0, by omega, by go_num, ⟨E9.out, by rw [List.map_append, hI.out.val, FM.out, KP.out], BL9.out⟩⟩
                    case measure => simp [intOf]; omega
                  · obtain ⟨i, rfl⟩ : ∃ i, j = i + 1 := ⟨j - 1, by omega⟩
                    obtain ⟨x, hx⟩ : ∃ x, us[i]? = some x := ⟨us[i]'(by rw [HQ.out]; omega), List.getElem?_eq_getElem _⟩
                    obtain ⟨b, off, hoa, _, _⟩ := SO.out.form entKind_ok (by omega)
                    have SO2 := SO.out
                    rw [hoa] at SO2
                    obtain ⟨r0, r1, r2, r3⟩ := ent_cells SO2 hx
                    have TK : Hid ((us.take (i + 1)).map (·.e) = (us.take i).map (·.e) ++ [x.e]) := by
                      show _ = _
                      rw [List.take_add_one, hx, List.map_append]
                      rfl
                    have j0 : (0 : Int) < (i : Int) + 1 := by omega
                    have j1 : (0 : Int) ≤ (i : Int) := by omega
                    have j2 : (i : Int) < (i : Int) + 1 := by omega
                    have j3 : (i : Int) ≤ (oc : Int) := by omega
                    have lw : IntKind.i64.wrap ((i : Int)) = (i : Int) := wrap_small _ (by omega) (by omega)
                    clear hx SO2
                    subst hoa
                    obtain ⟨xkp, xkc, xvp, xvc, ⟨xkey, xseq, xgone, xval⟩⟩ := x
                    simp only at r0 r1 r2 r3 TK
                    cases xgone with
                    | true =>
                      have X : Hid (Mg.strip (us.map (·.e)) = Mg.strip ((us.take i).map (·.e))) := by show _ = _; rw [hS.out.2.2, TK.out, Mg.strip_gone _ _ rfl]
                      go_wp2
                      go_roundw
                      case rel => first
                        | exact ⟨i, by omega, rfl, rfl, (fun h => by cases h), X.out⟩
                        | exact ⟨i, by omega, rfl, trivial, (fun h => by cases h), X.out⟩
                        | exact ⟨i, by omega, rfl, rfl, trivial, X.out⟩
                        | exact ⟨i, by omega, rfl, trivial, trivial, X.out⟩
                      case measure => simp [lenOf]
                    | false =>
                      have KP : Hid ((us.take (i + 1)).map (·.e) = Mg.kept zs true (yes.map (·.e))) := by
                        show _ = Mg.strip (Mg.asked true (yes.map (·.e)) zs)
                        rw [← UV.out, hS.out.2.2, TK.out, Mg.strip_stay _ _ rfl]
                      clear hS
                      have US : Hid (RSrc entKind wr (some ⟨b, off, none⟩) (i + 1) oc (us.take (i + 1))) := SO.out.head entKind_ok (i + 1) (by omega)
                      have EO := keep (hI.out.row.below BWC.out)
                      go_wp2_with (at_builtin; go_loud (refine wpList_append_rowsM rfl _ _ 24 36 rfl w2.heap.size i0 _ 4 64 Try.underlying24 hi0 hz0 hz1 hz2 rfl (by decide) u7 ys.length (rv entKind ys) rfl EO.out.row (some ⟨b, off, none⟩) (i + 1) oc (rv entKind (us.take (i + 1))) rfl US.out.nil (by rw [rv_length entKind_ok, US.out.len]; rfl) US.out.cells (rv_one entKind_ok _) (by unfold maxLen; omega) (by omega) (Nat.le_trans HB.out.size BWC.out.size) ?_); intro v9 w9 ho9 hg9; have HO9 := keep ho9; have HG9 := keep hg9; clear ho9 hg9)
                      have E9 : Hid (Ents w2.heap.size w9 v9 (ys ++ us.take (i + 1))) := EO.out.grow (fun z hz => (EU.out.each z (List.mem_of_mem_take hz)).base (Nat.le_trans HB.out.size BWB.out.size)) (by rw [rv_append, US.out.len]; exact HO9.out) HG9.out
                      have BL9 : Hid (Below w2.heap.size w2 w9) := (HB.out.trans (BWC.out.mono HB.out.size)).grown HG9.out (Nat.le_trans HB.out.size BWC.out.size) (fun j hj => (EO.out.row.lt j hj).1)
                      go_roundw
                      case rel => exact ⟨k + 1, ys ++ us.take (i + 1), by omega, by go_num, ⟨E9.out, by rw [List.map_append, hI.out.val, FM.out, KP.out], BL9.out⟩⟩
                      case measure => simp [intOf]; omega
    · obtain rfl : k = L := by omega
      have FV : Hid (ys.map (·.e) = Mg.prune (es.map (·.e)) zs bottom) := by
        show _ = _
        rw [hI.out.val, List.take_of_length_le (by rw [HN.out]; exact Nat.le_refl _)]
        unfold Mg.prune
        rw [part_ents VL.out]
      go_wp2
      go_ret
      first
        | exact ⟨_, ys, rfl, hI.out.row.base B2.out.size, FV.out, B2.out.trans (HB.out.mono B2.out.size)⟩
        | exact ⟨_, rfl, ys, hI.out.row.base B2.out.size, FV.out, B2.out.trans (HB.out.mono B2.out.size)⟩
end Go.Proofs.Ytgdggeacjfhkkaa
