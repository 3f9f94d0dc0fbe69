/- A table whose pieces were asked; the walks of First, Last and Get on it. -/
import Derived.Test.YtjblicgbdecbcaaZQ8j
import Derived.Test.YtjblicgbdecbcaaZB4
import Derived.Test.YtjblicgbdecbcaaZJmj
namespace Go.Proofs.Ytjblicgbdecbcaa
open Go.RowKit
open Sk (Ent)

/-- A piece that was asked. -/
structure DE where
  blk : Nat
  ea : Option Addr
  ec : Nat
  ys : List EV
structure PDone (w : World) (d : DE) : Prop where
  row : w.heap[d.blk]? = some (.cells #[.int .u32 1, .int .i32 0, .int .u32 0, .slice none 0 0, .slice d.ea d.ys.length d.ec] 97)
  ents : RSrc entKind w d.ea d.ys.length d.ec d.ys
theorem PDone.below {w w' : World} {d : DE} (h : PDone w d) (hb : Below w.heap.size w w') : PDone w' d := ⟨(hb.block _ (Array.getElem?_eq_some_iff.1 h.row).1).trans h.row, h.ents.below entKind_ok hb⟩
/-- A table as it lies: its pieces, its filter. -/
structure TDone (w : World) (tb : Nat) (ds : List DE) (Fl : List UInt8) : Prop where
  tab : ∃ pa pc fa fc, w.heap[tb]? = some (.cells #[.slice pa ds.length pc, .slice fa Fl.length fc] 62) ∧ RSrc ptrKind w pa ds.length pc (ds.map (·.blk)) ∧ Src w fa Fl.length fc Fl
  each : ∀ d ∈ ds, PDone w d
theorem TDone.below {w w' : World} {tb : Nat} {ds : List DE} {Fl : List UInt8} (h : TDone w tb ds Fl) (hb : Below w.heap.size w w') : TDone w' tb ds Fl := by
  obtain ⟨pa, pc, fa, fc, h1, h2, h3⟩ := h.tab
  exact ⟨⟨pa, pc, fa, fc, (hb.block _ (Array.getElem?_eq_some_iff.1 h1).1).trans h1, h2.below ptrKind_ok hb, h3.below hb⟩, fun d hd => (h.each d hd).below hb⟩
/-- All its entries. -/
def entsD (ds : List DE) : List Ent := ds.flatMap (fun d => d.ys.map (·.e))
theorem ptr_cell {w : World} {b off n c : Nat} {ps : List Nat} (h : RSrc ptrKind w (some ⟨b, off, none⟩) n c ps) {i p : Nat} (hi : ps[i]? = some p) : w.cell? ⟨b, off + i, none⟩ = some (.pointer (some ⟨p, 0, none⟩)) := by
  have h1 := h.cells _ rfl (i * ptrKind.size + 0) _ ((rv_at ptrKind_ok 0 hi (by decide)).trans rfl)
  rw [Addr.add_mid] at h1
  have e : i * ptrKind.size + 0 = i := by show i * 1 + 0 = i; omega
  rw [e] at h1
  exact h1
set_option maxHeartbeats 2000000 in
set_option maxRecDepth 100000 in
theorem first_done (tb : Nat) (d : DE) (ds : List DE) (Fl : List UInt8) (y : EV) (ys : List EV) (w : World) (hT : TDone w tb (d :: ds) Fl) (hy : d.ys = y :: ys) (hl : ds.length ≤ 64) (hyl : ys.length ≤ 64) (hk : y.e.key.length ≤ 64) :
    Calls Try.prog 14 #[.pointer (some ⟨tb, 0, none⟩)] w fun e w' => ∃ v, e = .returned v ∧ New w w' v y.e.key.length y.e.key := by
  obtain ⟨pa, pc, fa, fc, h1, h2, _⟩ := hT.tab
  obtain ⟨pb, po, rfl, _, _⟩ := h2.form ptrKind_ok (by simp)
  have c0 : w.cell? ⟨tb, 0, none⟩ = some (.slice (some ⟨pb, po, none⟩) (ds.length + 1) pc) := cell_of_row _ _ _ _ _ _ h1
  have c1 : w.cell? ⟨pb, po, none⟩ = some (.pointer (some ⟨d.blk, 0, none⟩)) := ptr_cell h2 (i := 0) rfl
  have hD := hT.each d (by simp)
  have hr := hD.row
  have he := hD.ents
  rw [hy] at hr he
  simp only [List.length_cons] at hr he
  have LI := keep (list_again d.blk d.ea (ys.length + 1) d.ec w hr)
  obtain ⟨eb, eo, hea, _, _⟩ := he.form entKind_ok (by omega)
  rw [hea] at LI he
  have EN := keep he
  have n1 : ¬ ((ds.length : Int) + 1 = 0) := by omega
  have n2 : (((ds.length + 1 : Nat) : Int) == 0) = false := by simp; omega
  have n3 : (0 : Int) < ((ds.length + 1 : Nat) : Int) := by omega
  have n4 : (0 : Int) < ((ys.length + 1 : Nat) : Int) := by omega
  have n5 : (0 : Int) < (ds.length : Int) + 1 := by omega
  have n6 : (0 : Int) < (ys.length : Int) + 1 := by omega
  clear hT h1 h2 hD hr he hea
  go_enter Try.func14, Try.ntmps14
  go_wp2_with fail
  refine LI.out.mono ?_
  rintro e w2 ⟨rfl, hb2⟩
  have E2 := EN.out.below entKind_ok hb2
  obtain ⟨q0, _, _, _⟩ := ent_cells (i := 0) E2 rfl
  have q1 : w2.cell? ⟨eb, eo, none⟩ = some (.slice y.kp y.e.key.length y.kc) := by simpa using q0
  have CL := keep (clone_any y.kp y.e.key.length y.kc y.e.key w2 (by omega) (E2.held y (by simp)).1)
  have B2 := keep hb2
  clear hb2 E2 LI q0
  go_wp2_with fail
  refine CL.out.mono ?_
  rintro e w3 ⟨v, rfl, hN⟩
  have N3 : Hid (New w w3 v y.e.key.length y.e.key) := ⟨own_base hN.1 (fun g hg => Nat.le_trans B2.out.size (hN.1.lt g hg).1), B2.out.trans (hN.2.mono B2.out.size)⟩
  clear hN CL
  go_wp2
  go_ret
  exact ⟨_, rfl, N3.out⟩
set_option maxHeartbeats 4000000 in
set_option maxRecDepth 100000 in
theorem last_done (tb m q : Nat) (d : DE) (ds : List DE) (Fl : List UInt8) (y : EV) (w : World) (hT : TDone w tb ds Fl) (hd : ds[m]? = some d) (hm : ds.length = m + 1) (hy : d.ys[q]? = some y) (hq : d.ys.length = q + 1) (hl : m ≤ 64) (hyl : q ≤ 64) (hk : y.e.key.length ≤ 64) :
    Calls Try.prog 15 #[.pointer (some ⟨tb, 0, none⟩)] w fun e w' => ∃ v, e = .returned v ∧ New w w' v y.e.key.length y.e.key := by
  obtain ⟨pa, pc, fa, fc, h1, h2, _⟩ := hT.tab
  rw [hm] at h1 h2
  obtain ⟨pb, po, rfl, _, _⟩ := h2.form ptrKind_ok (by omega)
  have c0 : w.cell? ⟨tb, 0, none⟩ = some (.slice (some ⟨pb, po, none⟩) (m + 1) pc) := cell_of_row _ _ _ _ _ _ h1
  have c1 : w.cell? ⟨pb, po + m, none⟩ = some (.pointer (some ⟨d.blk, 0, none⟩)) := ptr_cell h2 (i := m) (by rw [List.getElem?_map, hd]; rfl)
  have CC : Hid (∀ w', Below w.heap.size w w' → w'.cell? ⟨tb, 0, none⟩ = some (.slice (some ⟨pb, po, none⟩) (m + 1) pc) ∧ w'.cell? ⟨pb, po + m, none⟩ = some (.pointer (some ⟨d.blk, 0, none⟩))) := fun w' hb => ⟨below_cell hb c0, below_cell hb c1⟩
  have hD := hT.each d (List.mem_of_getElem? hd)
  have hr := hD.row
  have he := hD.ents
  have HY := keep hy
  rw [hq] at hr he
  have LI : Hid (∀ w', Below w.heap.size w w' → _) := fun w' hb => list_again d.blk d.ea (q + 1) d.ec w' ((hb.block _ (Array.getElem?_eq_some_iff.1 hr).1).trans hr)
  obtain ⟨eb, eo, hea, _, _⟩ := he.form entKind_ok (by omega)
  rw [hea] at LI he
  have EN := keep he
  have n1 : ¬ ((m : Int) + 1 = 0) := by omega
  have n2 : (((m + 1 : Nat) : Int) == 0) = false := by simp; omega
  have s1 : IntKind.i64.wrap (m : Int) = (m : Int) := wrap_small _ (by omega) (by omega)
  have s2 : ((m + 1 : Nat) : Int) - 1 = (m : Int) := by omega
  have s3 : (m : Int) < ((m + 1 : Nat) : Int) := by omega
  have s4 : (0 : Int) ≤ (m : Int) := by omega
  have s6 : (m : Int) < (m : Int) + 1 := by omega
  have r1 : IntKind.i64.wrap (q : Int) = (q : Int) := wrap_small _ (by omega) (by omega)
  have r2 : ((q + 1 : Nat) : Int) - 1 = (q : Int) := by omega
  have r3 : (q : Int) < ((q + 1 : Nat) : Int) := by omega
  have r4 : (0 : Int) ≤ (q : Int) := by omega
  have r6 : (q : Int) < (q : Int) + 1 := by omega
  clear hT h1 h2 hD hr he hea hd hm hy hq
  go_enter Try.func15, Try.ntmps15
  go_wp2_with fail
  refine wp_region_held_drew (S := fun w' => Below w.heap.size w w') (by kernel_rfl) ((Below.refl _ _).drew) (fun hHeld => ?_)
  refine takeH (i := 0) 14 (v := .pointer (some ⟨tb, 0, none⟩)) rfl rfl (by kernel_rfl) (by kernel_rfl) (by kernel_rfl) (fun _ _ _ h => h) (Or.inl ⟨by rfl, ?_⟩) (by assumption) ?_
  · intro w' hSw'
    go_simp
  simp only [Act.put, List.setIfInBounds_toArray, List.set_cons_zero, List.set_cons_succ]
  refine takeH (i := 1) 15 (v := .pointer (some ⟨tb, 0, none⟩)) rfl rfl (by kernel_rfl) (by kernel_rfl) (by kernel_rfl) (fun _ _ _ h => h) (Or.inl ⟨by rfl, ?_⟩) (by assumption) ?_
  · intro w' hSw'
    go_simp
  simp only [Act.put, List.setIfInBounds_toArray, List.set_cons_zero, List.set_cons_succ]
  refine takeH (i := 2) 16 (v := .pointer (some ⟨tb, 0, none⟩)) rfl rfl (by kernel_rfl) (by kernel_rfl) (by kernel_rfl) (fun _ _ _ h => h) (Or.inl ⟨by rfl, ?_⟩) (by assumption) ?_
  · intro w' hSw'
    go_simp
  simp only [Act.put, List.setIfInBounds_toArray, List.set_cons_zero, List.set_cons_succ]
  refine takeH (i := 3) 17 (v := .slice (some ⟨pb, po, none⟩) (m + 1) pc) rfl rfl (by kernel_rfl) (by kernel_rfl) (by kernel_rfl) (fun _ _ _ h => h) (Or.inl ⟨by rfl, ?_⟩) (by assumption) ?_
  · intro w' hSw'
    obtain ⟨d0, d1⟩ := CC.out w' hSw'
    go_simp
  simp only [Act.put, List.setIfInBounds_toArray, List.set_cons_zero, List.set_cons_succ]
  refine takeH (i := 4) 18 (v := .pointer (some ⟨tb, 0, none⟩)) rfl rfl (by kernel_rfl) (by kernel_rfl) (by kernel_rfl) (fun _ _ _ h => h) (Or.inl ⟨by rfl, ?_⟩) (by assumption) ?_
  · intro w' hSw'
    go_simp
  simp only [Act.put, List.setIfInBounds_toArray, List.set_cons_zero, List.set_cons_succ]
  refine takeH (i := 5) 19 (v := .pointer (some ⟨tb, 0, none⟩)) rfl rfl (by kernel_rfl) (by kernel_rfl) (by kernel_rfl) (fun _ _ _ h => h) (Or.inl ⟨by rfl, ?_⟩) (by assumption) ?_
  · intro w' hSw'
    go_simp
  simp only [Act.put, List.setIfInBounds_toArray, List.set_cons_zero, List.set_cons_succ]
  refine takeH (i := 6) 20 (v := .pointer (some ⟨tb, 0, none⟩)) rfl rfl (by kernel_rfl) (by kernel_rfl) (by kernel_rfl) (fun _ _ _ h => h) (Or.inl ⟨by rfl, ?_⟩) (by assumption) ?_
  · intro w' hSw'
    go_simp
  simp only [Act.put, List.setIfInBounds_toArray, List.set_cons_zero, List.set_cons_succ]
  refine takeH (i := 7) 21 (v := .slice (some ⟨pb, po, none⟩) (m + 1) pc) rfl rfl (by kernel_rfl) (by kernel_rfl) (by kernel_rfl) (fun _ _ _ h => h) (Or.inl ⟨by rfl, ?_⟩) (by assumption) ?_
  · intro w' hSw'
    obtain ⟨d0, d1⟩ := CC.out w' hSw'
    go_simp
  simp only [Act.put, List.setIfInBounds_toArray, List.set_cons_zero, List.set_cons_succ]
  refine takeH (i := 8) 0x16 (v := .int .i64 ((m + 1 : Nat) : Int)) rfl rfl (by kernel_rfl) (by kernel_rfl) (by kernel_rfl) (fun _ _ _ h => h) (Or.inl ⟨by rfl, ?_⟩) (by assumption) ?_
  · intro w' hSw'
    go_simp
  simp only [Act.put, List.setIfInBounds_toArray, List.set_cons_zero, List.set_cons_succ]
  refine takeH (i := 9) 23 (v := .int .i64 (m : Int)) rfl rfl (by kernel_rfl) (by kernel_rfl) (by kernel_rfl) (fun _ _ _ h => h) (Or.inl ⟨by rfl, ?_⟩) (by assumption) ?_
  · intro w' hSw'
    go_simp
  simp only [Act.put, List.setIfInBounds_toArray, List.set_cons_zero, List.set_cons_succ]
  refine takeH (i := 10) 24 (v := .pointer (some ⟨pb, po + m, none⟩)) rfl rfl (by kernel_rfl) (by kernel_rfl) (by kernel_rfl) (fun _ _ _ h => h) (Or.inl ⟨by rfl, ?_⟩) (by assumption) ?_
  · intro w' hSw'
    go_simp
  simp only [Act.put, List.setIfInBounds_toArray, List.set_cons_zero, List.set_cons_succ]
  refine takeH (i := 11) 25 (v := .pointer (some ⟨d.blk, 0, none⟩)) rfl rfl (by kernel_rfl) (by kernel_rfl) (by kernel_rfl) (fun _ _ _ h => h) (Or.inl ⟨by rfl, ?_⟩) (by assumption) ?_
  · intro w' hSw'
    obtain ⟨d0, d1⟩ := CC.out w' hSw'
    go_simp
  simp only [Act.put, List.setIfInBounds_toArray, List.set_cons_zero, List.set_cons_succ]
  refine wpAnyH_ready (rs := [12]) (by kernel_rfl) (by simp) ?_
  refine AllReadyH.cons rfl (fun K hK => ?_) AllReadyH.nil
  go_simp
  refine (LI.out _ (Below.refl _ _).drew).mono ?_
  rintro e w2 ⟨rfl, hb2⟩
  have B2 : Hid (Below w.heap.size w w2) := ((Below.refl _ _).drew).trans (hb2.mono (Nat.le_refl _))
  clear hb2
  go_wp2_with fail
  refine hK.out _ _ (B2.out) (fun hHeld1 => ?_)
  clear hK K
  refine takeH (i := 13) 3 (v := .slice (some ⟨eb, eo, none⟩) (q + 1) d.ec) rfl rfl (by kernel_rfl) (by kernel_rfl) (by kernel_rfl) (fun _ _ _ h => h) (Or.inl ⟨by rfl, ?_⟩) (by assumption) ?_
  · intro w' hSw'
    go_simp
  simp only [Act.put, List.setIfInBounds_toArray, List.set_cons_zero, List.set_cons_succ]
  refine wpAnyH_done (by kernel_rfl) ?_ _
  have E2 := EN.out.below entKind_ok B2.out
  obtain ⟨q0, _, _, _⟩ := ent_cells (i := q) E2 HY.out
  have CL := keep (clone_any y.kp y.e.key.length y.kc y.e.key w2 (by omega) (E2.held y (List.mem_of_getElem? HY.out)).1)
  clear E2 LI hHeld hHeld1
  go_wp2_with fail
  refine CL.out.mono ?_
  rintro e w3 ⟨v, rfl, hN⟩
  have N3 : Hid (New w w3 v y.e.key.length y.e.key) := ⟨own_base hN.1 (fun g hg => Nat.le_trans B2.out.size (hN.1.lt g hg).1), B2.out.trans (hN.2.mono B2.out.size)⟩
  clear hN CL
  go_wp2
  go_ret
  exact ⟨_, rfl, N3.out⟩
end Go.Proofs.Ytjblicgbdecbcaa
