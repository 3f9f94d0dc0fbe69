/- A table whose pieces were asked; the walks of First, Last and Get on it. -/
/- The walk of Get on a table whose pieces were asked. -/
/- The walk of the iterator over a table's entries, its pieces asked already. -/
/- The walk of Count on a table whose pieces were asked. -/
import Derived.Test.YtjblicgbdecbcaaGreatZQ8j
import Derived.Test.YtjblicgbdecbcaaGreatZB4
import Derived.Test.YtjblicgbdecbcaaGreatZJmj
import Derived.Test.YtjblicgbdecbcaaGreatZB3j
namespace Go.Proofs.YtjblicgbdecbcaaGreat
open Go.RowKit
open Sk (Ent)

/-- A piece that was asked. -/
structure DE where
  blk : Nat
  ea : Option Addr
  ec : Nat
  ys : List EV
structure PDone (w : World) (d : DE) : Prop where
  row : w.heap[d.blk]? = some (.cells #[.int .u32 1, .int .i32 0, .int .u32 0, .slice none 0 0, .slice d.ea d.ys.length d.ec] 102)
  ents : RSrc entKind w d.ea d.ys.length d.ec d.ys
theorem PDone.below {w w' : World} {d : DE} (h : PDone w d) (hb : Below w.heap.size w w') : PDone w' d := ⟨(hb.block _ (Array.getElem?_eq_some_iff.1 h.row).1).trans h.row, h.ents.below entKind_ok hb⟩
/-- A table as it lies: its pieces, its filter. -/
structure TDone (w : World) (tb : Nat) (ds : List DE) (Fl : List UInt8) : Prop where
  tab : ∃ pa pc fa fc, w.heap[tb]? = some (.cells #[.slice pa ds.length pc, .slice fa Fl.length fc] 67) ∧ RSrc ptrKind w pa ds.length pc (ds.map (·.blk)) ∧ Src w fa Fl.length fc Fl
  each : ∀ d ∈ ds, PDone w d
theorem TDone.below {w w' : World} {tb : Nat} {ds : List DE} {Fl : List UInt8} (h : TDone w tb ds Fl) (hb : Below w.heap.size w w') : TDone w' tb ds Fl := by
  obtain ⟨pa, pc, fa, fc, h1, h2, h3⟩ := h.tab
  exact ⟨⟨pa, pc, fa, fc, (hb.block _ (Array.getElem?_eq_some_iff.1 h1).1).trans h1, h2.below ptrKind_ok hb, h3.below hb⟩, fun d hd => (h.each d hd).below hb⟩
/-- All its entries. -/
def entsD (ds : List DE) : List Ent := ds.flatMap (fun d => d.ys.map (·.e))
theorem ptr_cell {w : World} {b off n c : Nat} {ps : List Nat} (h : RSrc ptrKind w (some ⟨b, off, none⟩) n c ps) {i p : Nat} (hi : ps[i]? = some p) : w.cell? ⟨b, off + i, none⟩ = some (.pointer (some ⟨p, 0, none⟩)) := by
  have h1 := h.cells _ rfl (i * ptrKind.size + 0) _ ((rv_at ptrKind_ok 0 hi (by decide)).trans rfl)
  rw [Addr.add_mid] at h1
  have e : i * ptrKind.size + 0 = i := by show i * 1 + 0 = i; omega
  rw [e] at h1
  exact h1
set_option maxHeartbeats 2000000 in
set_option maxRecDepth 100000 in
theorem first_done (tb : Nat) (d : DE) (ds : List DE) (Fl : List UInt8) (y : EV) (ys : List EV) (w : World) (hT : TDone w tb (d :: ds) Fl) (hy : d.ys = y :: ys) (hl : ds.length ≤ 64) (hyl : ys.length ≤ 64) (hk : y.e.key.length ≤ 64) :
    Calls Tryz.prog 21 #[.pointer (some ⟨tb, 0, none⟩)] w fun e w' => ∃ v, e = .returned v ∧ New w w' v y.e.key.length y.e.key := by
  obtain ⟨pa, pc, fa, fc, h1, h2, _⟩ := hT.tab
  obtain ⟨pb, po, rfl, _, _⟩ := h2.form ptrKind_ok (by simp)
  have c0 : w.cell? ⟨tb, 0, none⟩ = some (.slice (some ⟨pb, po, none⟩) (ds.length + 1) pc) := cell_of_row _ _ _ _ _ _ h1
  have c1 : w.cell? ⟨pb, po, none⟩ = some (.pointer (some ⟨d.blk, 0, none⟩)) := ptr_cell h2 (i := 0) rfl
  have hD := hT.each d (by simp)
  have hr := hD.row
  have he := hD.ents
  rw [hy] at hr he
  simp only [List.length_cons] at hr he
  have LI := keep (list_again d.blk d.ea (ys.length + 1) d.ec w hr)
  obtain ⟨eb, eo, hea, _, _⟩ := he.form entKind_ok (by omega)
  rw [hea] at LI he
  have EN := keep he
  have n1 : ¬ ((ds.length : Int) + 1 = 0) := by omega
  have n2 : (((ds.length + 1 : Nat) : Int) == 0) = false := by simp; omega
  have n3 : (0 : Int) < ((ds.length + 1 : Nat) : Int) := by omega
  have n4 : (0 : Int) < ((ys.length + 1 : Nat) : Int) := by omega
  have n5 : (0 : Int) < (ds.length : Int) + 1 := by omega
  have n6 : (0 : Int) < (ys.length : Int) + 1 := by omega
  clear hT h1 h2 hD hr he hea
  go_enter Tryz.func21, Tryz.ntmps21
  go_wp2_with fail
  refine LI.out.mono ?_
  rintro e w2 ⟨rfl, hb2⟩
  have E2 := EN.out.below entKind_ok hb2
  obtain ⟨q0, _, _, _⟩ := ent_cells (i := 0) E2 rfl
  have q1 : w2.cell? ⟨eb, eo, none⟩ = some (.slice y.kp y.e.key.length y.kc) := by simpa using q0
  have CL := keep (clone_any y.kp y.e.key.length y.kc y.e.key w2 (by omega) (E2.held y (by simp)).1)
  have B2 := keep hb2
  clear hb2 E2 LI q0
  go_wp2_with fail
  refine CL.out.mono ?_
  rintro e w3 ⟨v, rfl, hN⟩
  have N3 : Hid (New w w3 v y.e.key.length y.e.key) := ⟨own_base hN.1 (fun g hg => Nat.le_trans B2.out.size (hN.1.lt g hg).1), B2.out.trans (hN.2.mono B2.out.size)⟩
  clear hN CL
  go_wp2
  go_ret
  exact ⟨_, rfl, N3.out⟩
set_option maxHeartbeats 4000000 in
set_option maxRecDepth 100000 in
theorem last_done (tb m q : Nat) (d : DE) (ds : List DE) (Fl : List UInt8) (y : EV) (w : World) (hT : TDone w tb ds Fl) (hd : ds[m]? = some d) (hm : ds.length = m + 1) (hy : d.ys[q]? = some y) (hq : d.ys.length = q + 1) (hl : m ≤ 64) (hyl : q ≤ 64) (hk : y.e.key.length ≤ 64) :
    Calls Tryz.prog 22 #[.pointer (some ⟨tb, 0, none⟩)] w fun e w' => ∃ v, e = .returned v ∧ New w w' v y.e.key.length y.e.key := by
  obtain ⟨pa, pc, fa, fc, h1, h2, _⟩ := hT.tab
  rw [hm] at h1 h2
  obtain ⟨pb, po, rfl, _, _⟩ := h2.form ptrKind_ok (by omega)
  have c0 : w.cell? ⟨tb, 0, none⟩ = some (.slice (some ⟨pb, po, none⟩) (m + 1) pc) := cell_of_row _ _ _ _ _ _ h1
  have c1 : w.cell? ⟨pb, po + m, none⟩ = some (.pointer (some ⟨d.blk, 0, none⟩)) := ptr_cell h2 (i := m) (by rw [List.getElem?_map, hd]; rfl)
  have CC : Hid (∀ w', Below w.heap.size w w' → w'.cell? ⟨tb, 0, none⟩ = some (.slice (some ⟨pb, po, none⟩) (m + 1) pc) ∧ w'.cell? ⟨pb, po + m, none⟩ = some (.pointer (some ⟨d.blk, 0, none⟩))) := fun w' hb => ⟨below_cell hb c0, below_cell hb c1⟩
  have hD := hT.each d (List.mem_of_getElem? hd)
  have hr := hD.row
  have he := hD.ents
  have HY := keep hy
  rw [hq] at hr he
  have LI : Hid (∀ w', Below w.heap.size w w' → _) := fun w' hb => list_again d.blk d.ea (q + 1) d.ec w' ((hb.block _ (Array.getElem?_eq_some_iff.1 hr).1).trans hr)
  obtain ⟨eb, eo, hea, _, _⟩ := he.form entKind_ok (by omega)
  rw [hea] at LI he
  have EN := keep he
  have n1 : ¬ ((m : Int) + 1 = 0) := by omega
  have n2 : (((m + 1 : Nat) : Int) == 0) = false := by simp; omega
  have s1 : IntKind.i64.wrap (m : Int) = (m : Int) := wrap_small _ (by omega) (by omega)
  have s2 : ((m + 1 : Nat) : Int) - 1 = (m : Int) := by omega
  have s3 : (m : Int) < ((m + 1 : Nat) : Int) := by omega
  have s4 : (0 : Int) ≤ (m : Int) := by omega
  have s6 : (m : Int) < (m : Int) + 1 := by omega
  have r1 : IntKind.i64.wrap (q : Int) = (q : Int) := wrap_small _ (by omega) (by omega)
  have r2 : ((q + 1 : Nat) : Int) - 1 = (q : Int) := by omega
  have r3 : (q : Int) < ((q + 1 : Nat) : Int) := by omega
  have r4 : (0 : Int) ≤ (q : Int) := by omega
  have r6 : (q : Int) < (q : Int) + 1 := by omega
  clear hT h1 h2 hD hr he hea hd hm hy hq
  go_enter Tryz.func22, Tryz.ntmps22
  go_wp2_with fail
  refine wp_region_held_drew (S := fun w' => Below w.heap.size w w') (by kernel_rfl) ((Below.refl _ _).drew) (fun hHeld => ?_)
  refine takeH (i := 0) 14 (v := .pointer (some ⟨tb, 0, none⟩)) rfl rfl (by kernel_rfl) (by kernel_rfl) (by kernel_rfl) (fun _ _ _ h => h) (Or.inl ⟨by rfl, ?_⟩) (by assumption) ?_
  · intro w' hSw'
    go_simp
  simp only [Act.put, List.setIfInBounds_toArray, List.set_cons_zero, List.set_cons_succ]
  refine takeH (i := 1) 15 (v := .pointer (some ⟨tb, 0, none⟩)) rfl rfl (by kernel_rfl) (by kernel_rfl) (by kernel_rfl) (fun _ _ _ h => h) (Or.inl ⟨by rfl, ?_⟩) (by assumption) ?_
  · intro w' hSw'
    go_simp
  simp only [Act.put, List.setIfInBounds_toArray, List.set_cons_zero, List.set_cons_succ]
  refine takeH (i := 2) 16 (v := .pointer (some ⟨tb, 0, none⟩)) rfl rfl (by kernel_rfl) (by kernel_rfl) (by kernel_rfl) (fun _ _ _ h => h) (Or.inl ⟨by rfl, ?_⟩) (by assumption) ?_
  · intro w' hSw'
    go_simp
  simp only [Act.put, List.setIfInBounds_toArray, List.set_cons_zero, List.set_cons_succ]
  refine takeH (i := 3) 17 (v := .slice (some ⟨pb, po, none⟩) (m + 1) pc) rfl rfl (by kernel_rfl) (by kernel_rfl) (by kernel_rfl) (fun _ _ _ h => h) (Or.inl ⟨by rfl, ?_⟩) (by assumption) ?_
  · intro w' hSw'
    obtain ⟨d0, d1⟩ := CC.out w' hSw'
    go_simp
  simp only [Act.put, List.setIfInBounds_toArray, List.set_cons_zero, List.set_cons_succ]
  refine takeH (i := 4) 18 (v := .pointer (some ⟨tb, 0, none⟩)) rfl rfl (by kernel_rfl) (by kernel_rfl) (by kernel_rfl) (fun _ _ _ h => h) (Or.inl ⟨by rfl, ?_⟩) (by assumption) ?_
  · intro w' hSw'
    go_simp
  simp only [Act.put, List.setIfInBounds_toArray, List.set_cons_zero, List.set_cons_succ]
  refine takeH (i := 5) 19 (v := .pointer (some ⟨tb, 0, none⟩)) rfl rfl (by kernel_rfl) (by kernel_rfl) (by kernel_rfl) (fun _ _ _ h => h) (Or.inl ⟨by rfl, ?_⟩) (by assumption) ?_
  · intro w' hSw'
    go_simp
  simp only [Act.put, List.setIfInBounds_toArray, List.set_cons_zero, List.set_cons_succ]
  refine takeH (i := 6) 20 (v := .pointer (some ⟨tb, 0, none⟩)) rfl rfl (by kernel_rfl) (by kernel_rfl) (by kernel_rfl) (fun _ _ _ h => h) (Or.inl ⟨by rfl, ?_⟩) (by assumption) ?_
  · intro w' hSw'
    go_simp
  simp only [Act.put, List.setIfInBounds_toArray, List.set_cons_zero, List.set_cons_succ]
  refine takeH (i := 7) 21 (v := .slice (some ⟨pb, po, none⟩) (m + 1) pc) rfl rfl (by kernel_rfl) (by kernel_rfl) (by kernel_rfl) (fun _ _ _ h => h) (Or.inl ⟨by rfl, ?_⟩) (by assumption) ?_
  · intro w' hSw'
    obtain ⟨d0, d1⟩ := CC.out w' hSw'
    go_simp
  simp only [Act.put, List.setIfInBounds_toArray, List.set_cons_zero, List.set_cons_succ]
  refine takeH (i := 8) 0x16 (v := .int .i64 ((m + 1 : Nat) : Int)) rfl rfl (by kernel_rfl) (by kernel_rfl) (by kernel_rfl) (fun _ _ _ h => h) (Or.inl ⟨by rfl, ?_⟩) (by assumption) ?_
  · intro w' hSw'
    go_simp
  simp only [Act.put, List.setIfInBounds_toArray, List.set_cons_zero, List.set_cons_succ]
  refine takeH (i := 9) 23 (v := .int .i64 (m : Int)) rfl rfl (by kernel_rfl) (by kernel_rfl) (by kernel_rfl) (fun _ _ _ h => h) (Or.inl ⟨by rfl, ?_⟩) (by assumption) ?_
  · intro w' hSw'
    go_simp
  simp only [Act.put, List.setIfInBounds_toArray, List.set_cons_zero, List.set_cons_succ]
  refine takeH (i := 10) 24 (v := .pointer (some ⟨pb, po + m, none⟩)) rfl rfl (by kernel_rfl) (by kernel_rfl) (by kernel_rfl) (fun _ _ _ h => h) (Or.inl ⟨by rfl, ?_⟩) (by assumption) ?_
  · intro w' hSw'
    go_simp
  simp only [Act.put, List.setIfInBounds_toArray, List.set_cons_zero, List.set_cons_succ]
  refine takeH (i := 11) 25 (v := .pointer (some ⟨d.blk, 0, none⟩)) rfl rfl (by kernel_rfl) (by kernel_rfl) (by kernel_rfl) (fun _ _ _ h => h) (Or.inl ⟨by rfl, ?_⟩) (by assumption) ?_
  · intro w' hSw'
    obtain ⟨d0, d1⟩ := CC.out w' hSw'
    go_simp
  simp only [Act.put, List.setIfInBounds_toArray, List.set_cons_zero, List.set_cons_succ]
  refine wpAnyH_ready (rs := [12]) (by kernel_rfl) (by simp) ?_
  refine AllReadyH.cons rfl (fun K hK => ?_) AllReadyH.nil
  go_simp
  refine (LI.out _ (Below.refl _ _).drew).mono ?_
  rintro e w2 ⟨rfl, hb2⟩
  have B2 : Hid (Below w.heap.size w w2) := ((Below.refl _ _).drew).trans (hb2.mono (Nat.le_refl _))
  clear hb2
  go_wp2_with fail
  refine hK.out _ _ (B2.out) (fun hHeld1 => ?_)
  clear hK K
  refine takeH (i := 13) 3 (v := .slice (some ⟨eb, eo, none⟩) (q + 1) d.ec) rfl rfl (by kernel_rfl) (by kernel_rfl) (by kernel_rfl) (fun _ _ _ h => h) (Or.inl ⟨by rfl, ?_⟩) (by assumption) ?_
  · intro w' hSw'
    go_simp
  simp only [Act.put, List.setIfInBounds_toArray, List.set_cons_zero, List.set_cons_succ]
  refine wpAnyH_done (by kernel_rfl) ?_ _
  have E2 := EN.out.below entKind_ok B2.out
  obtain ⟨q0, _, _, _⟩ := ent_cells (i := q) E2 HY.out
  have CL := keep (clone_any y.kp y.e.key.length y.kc y.e.key w2 (by omega) (E2.held y (List.mem_of_getElem? HY.out)).1)
  clear E2 LI hHeld hHeld1
  go_wp2_with fail
  refine CL.out.mono ?_
  rintro e w3 ⟨v, rfl, hN⟩
  have N3 : Hid (New w w3 v y.e.key.length y.e.key) := ⟨own_base hN.1 (fun g hg => Nat.le_trans B2.out.size (hN.1.lt g hg).1), B2.out.trans (hN.2.mono B2.out.size)⟩
  clear hN CL
  go_wp2
  go_ret
  exact ⟨_, rfl, N3.out⟩
end Go.Proofs.YtjblicgbdecbcaaGreat
namespace Go.Proofs.YtjblicgbdecbcaaGreat
open Go.RowKit
open Sk (Ent)

theorem verE_app (a b : List Ent) (key : List UInt8) (s : Int) : verE (a ++ b) key s = (verE a key s).or (verE b key s) := by
  unfold verE
  rw [List.find?_append]
theorem entsD_snoc (ds : List DE) (d : DE) : entsD (ds ++ [d]) = entsD ds ++ d.ys.map (·.e) := by simp [entsD]
/-- What Get tells of a table. -/
def gotT (ds : List DE) (Fl key : List UInt8) (s : Int) : Option Ent := if Bl.has Fl key then verE (entsD ds) key s else none
set_option maxHeartbeats 4000000 in
set_option maxRecDepth 100000 in
theorem get_done (tb : Nat) (ds : List DE) (Fl : List UInt8) (kp : Option Addr) (kc : Nat) (key : List UInt8) (s : Int) (w : World) (hT : TDone w tb ds Fl) (hl : ds.length ≤ 64) (hF : Fl.length ≤ 140737488355328) (hK : key.length + 1 ≤ 140737488355328) (hMAY : ∀ d ∈ ds, d.ys.length ≤ 64 ∧ ∀ y ∈ d.ys, y.e.key.length ≤ 64 ∧ y.e.val.length ≤ 1024) (hs : Src w kp key.length kc key) :
    Calls Tryz.prog 13 #[.pointer (some ⟨tb, 0, none⟩), .slice kp key.length kc, .int .i64 s] w fun e w' => ∃ y : EV, e = .returned (.tuple #[ev y, .bool (gotT ds Fl key s).isSome]) ∧ y.e = (gotT ds Fl key s).getD zeroE ∧ OwnE w.heap.size w' y ∧ Below w.heap.size w w' := by
  obtain ⟨pa, pc, fa, fc, h1, h2, h3⟩ := hT.tab
  have TD := keep hT
  have HS := keep hs
  have MAY := keep hMAY
  have PR := keep h2
  obtain ⟨W1, hW1⟩ : ∃ W1, w.alloc (.cells #[.slice none 0 0, .int .i64 0, .bool false, .slice none 0 0] 37) = W1 := ⟨_, rfl⟩
  have b1 : Hid (Below w.heap.size w W1) := by rw [← hW1]; exact (Below.refl _ _).alloc (Nat.le_refl _) _
  have g1 : Hid (W1.heap[w.heap.size]? = some (.cells #[.slice none 0 0, .int .i64 0, .bool false, .slice none 0 0] 37)) := by rw [← hW1]; exact heap_alloc_new w _
  have gl : Hid (w.heap.size < W1.heap.size) := by rw [← hW1]; show _ < _; simp
  have c0 : W1.cell? ⟨tb, 0, none⟩ = some (.slice pa ds.length pc) := below_cell b1.out (cell_of_row _ _ _ _ _ _ h1)
  have c1 : W1.cell? ⟨tb, 1, none⟩ = some (.slice fa Fl.length fc) := below_cell b1.out (cell_of_row _ _ _ _ _ _ h1)
  have HAS := keep (has_any fa Fl.length fc Fl kp key.length kc key W1 hF hK (h3.below b1.out) (hs.below b1.out))
  have GT : Hid (gotT ds Fl key s = if Bl.has Fl key then verE (entsD ds) key s else none) := rfl
  obtain ⟨N, hN⟩ : ∃ N, ds.length = N := ⟨_, rfl⟩
  have HN := keep hN
  rw [hN] at c0 PR hl
  obtain ⟨L, hL⟩ : ∃ L, key.length = L := ⟨_, rfl⟩
  have HKL := keep hL
  rw [hL] at HAS HS ⊢
  obtain ⟨FL, hFL⟩ : ∃ FL, Fl.length = FL := ⟨_, rfl⟩
  rw [hFL] at c1 HAS
  clear hT hs hMAY h1 h2 h3 hN hL hFL hF hK
  cases hh : Bl.has Fl key with
  | false =>
    rw [hh] at HAS
    have FN : Hid (gotT ds Fl key s = none) := by show _ = _; rw [GT.out, hh]; rfl
    clear hh
    go_enter Tryz.func13, Tryz.ntmps13
    go_wp2_with fail
    refine HAS.out.mono ?_
    rintro e wr ⟨rfl, hbr⟩
    have HB := keep (b1.out.trans (hbr.mono b1.out.size))
    have G5 : Hid (wr.heap[w.heap.size]? = some (.cells #[.slice none 0 0, .int .i64 0, .bool false, .slice none 0 0] 37)) := (hbr.block _ gl.out).trans g1.out
    clear hbr
    have t0 : wr.cell? ⟨w.heap.size, 0, none⟩ = some (.slice none 0 0) := cell_of_row _ _ _ _ _ _ G5.out
    have t1 : wr.cell? ⟨w.heap.size, 1, none⟩ = some (.int .i64 0) := cell_of_row _ _ _ _ _ _ G5.out
    have t2 : wr.cell? ⟨w.heap.size, 2, none⟩ = some (.bool false) := cell_of_row _ _ _ _ _ _ G5.out
    have t3 : wr.cell? ⟨w.heap.size, 3, none⟩ = some (.slice none 0 0) := cell_of_row _ _ _ _ _ _ G5.out
    have f0 : wr.frozen? ⟨w.heap.size, 0, none⟩ = false := by simp [World.frozen?, G5.out]
    have f1 : wr.frozen? ⟨w.heap.size, 1, none⟩ = false := by simp [World.frozen?, G5.out]
    have f2 : wr.frozen? ⟨w.heap.size, 2, none⟩ = false := by simp [World.frozen?, G5.out]
    have f3 : wr.frozen? ⟨w.heap.size, 3, none⟩ = false := by simp [World.frozen?, G5.out]
    go_wp2
    refine ⟨rfl, .tuple #[ev evZ, .bool false], ?_, evZ, ?_, ?_, ⟨World.ownsRow_nil _ _ _ _, World.ownsRow_nil _ _ _ _⟩, ?_⟩
    · have s0 : (wr.setCell ⟨w.heap.size, 0, none⟩ (.slice none 0 0)).cell? ⟨w.heap.size, 0, none⟩ = some (.slice none 0 0) := World.cell?_setCell_same' _ _ _ (by simp [go_sem, t0])
      have s1 : ((wr.setCell ⟨w.heap.size, 0, none⟩ (.slice none 0 0)).setCell ⟨w.heap.size, 1, none⟩ (.int .i64 0)).cell? ⟨w.heap.size, 1, none⟩ = some (.int .i64 0) := World.cell?_setCell_same' _ _ _ (by simp [go_sem, t1])
      have s2 : (((wr.setCell ⟨w.heap.size, 0, none⟩ (.slice none 0 0)).setCell ⟨w.heap.size, 1, none⟩ (.int .i64 0)).setCell ⟨w.heap.size, 2, none⟩ (.bool false)).cell? ⟨w.heap.size, 2, none⟩ = some (.bool false) := World.cell?_setCell_same' _ _ _ (by simp [go_sem, t2])
      have s3 : ((((wr.setCell ⟨w.heap.size, 0, none⟩ (.slice none 0 0)).setCell ⟨w.heap.size, 1, none⟩ (.int .i64 0)).setCell ⟨w.heap.size, 2, none⟩ (.bool false)).setCell ⟨w.heap.size, 3, none⟩ (.slice none 0 0)).cell? ⟨w.heap.size, 3, none⟩ = some (.slice none 0 0) := World.cell?_setCell_same' _ _ _ (by simp [go_sem, t3])
      simp [results, Tryz.f13, go_sem, loadCells, loadCellsFrom, s0, s1, s2, s3, ev, evZ]
    · rw [FN.out]; rfl
    · rw [FN.out]; rfl
    · exact ((((HB.out.setCell (p := ⟨w.heap.size, 0, none⟩) (Nat.le_refl _) _).setCell (p := ⟨w.heap.size, 1, none⟩) (Nat.le_refl _) _).setCell (p := ⟨w.heap.size, 2, none⟩) (Nat.le_refl _) _).setCell (p := ⟨w.heap.size, 3, none⟩) (Nat.le_refl _) _)
  | true =>
    rw [hh] at HAS
    have GV : Hid (gotT ds Fl key s = verE (entsD ds) key s) := by show _ = _; rw [GT.out, hh]; rfl
    clear hh
    go_enter Tryz.func13, Tryz.ntmps13
    go_wp2_with fail
    refine HAS.out.mono ?_
    rintro e w2 ⟨rfl, hb2⟩
    have b2 := keep hb2
    have c2 : w2.cell? ⟨tb, 0, none⟩ = some (.slice pa N pc) := below_cell hb2 c0
    clear hb2 hW1 c0 c1
    go_wp2
    go_loopw [29] (fun i wr => ∃ k : Nat, k ≤ N ∧ i = .int .i64 (k : Int) ∧ Hid (Below W1.heap.size W1 wr ∧ verE (entsD (ds.take k)) key s = none)) (fun i _ => N - (intOf i).toNat)
    case atStart => exact ⟨0, Nat.zero_le _, rfl, b2.out, rfl⟩
    case round =>
      clear c2
      obtain ⟨k, hk, rfl, hI⟩ := hrel
      have HB := keep (b1.out.trans (hI.out.1.mono b1.out.size))
      by_cases hkn : k < N
      · obtain ⟨pb, po, rfl, _, _⟩ := PR.out.form ptrKind_ok (by omega)
        obtain ⟨d, hd⟩ : ∃ d, ds[k]? = some d := ⟨ds[k]'(by rw [HN.out]; exact hkn), List.getElem?_eq_getElem _⟩
        have p0 : wr.cell? ⟨pb, po + k, none⟩ = some (.pointer (some ⟨d.blk, 0, none⟩)) := ptr_cell (PR.out.below ptrKind_ok HB.out) (i := k) (by rw [List.getElem?_map, hd]; rfl)
        have PD := keep ((TD.out.each d (List.mem_of_getElem? hd)).below HB.out)
        have hdm := MAY.out d (List.mem_of_getElem? hd)
        have TK : Hid (entsD (ds.take (k + 1)) = entsD (ds.take k) ++ d.ys.map (·.e)) := by
          show _ = _
          rw [List.take_add_one, hd]
          exact entsD_snoc _ _
        have SP : Hid (verE (d.ys.map (·.e)) key s = none → verE (entsD (ds.take (k + 1))) key s = none) := fun h => by rw [TK.out, verE_app, hI.out.2, h]; rfl
        have FND : Hid (∀ x, verE (d.ys.map (·.e)) key s = some x → verE (entsD ds) key s = some x) := fun x h => by
          have e2 : entsD ds = entsD (ds.take (k + 1)) ++ entsD (ds.drop (k + 1)) := by
            have h2 : entsD (ds.take (k + 1) ++ ds.drop (k + 1)) = entsD (ds.take (k + 1)) ++ entsD (ds.drop (k + 1)) := by unfold entsD; rw [List.flatMap_append]
            rwa [List.take_append_drop] at h2
          rw [e2, verE_app, TK.out, verE_app, hI.out.2, h]
          rfl
        have LI := keep (list_again d.blk d.ea d.ys.length d.ec wr PD.out.row)
        have FI : Hid (∀ w', Below wr.heap.size wr w' → _) := fun w' hb => find_any d.ea d.ys.length d.ec d.ys kp kc key s w' (PD.out.ents.below entKind_ok hb) (fun y hy => by have := hdm.2 y hy; omega) (by have := hdm.1; omega) (by rw [HKL.out]; exact (HS.out.below HB.out).below hb)
        have j0 : (0 : Int) ≤ (k : Int) := by omega
        have ll : (k : Int) < (N : Int) := by omega
        rw [HKL.out] at FI
        clear hd hdm
        cases hv : verE (d.ys.map (·.e)) key s with
        | none =>
          rw [hv] at FI
          have NX := keep (SP.out hv)
          simp only [Option.isSome_none] at FI
          clear hv
          go_wp2_with fail
          refine LI.out.mono ?_
          rintro e w4 ⟨rfl, hb4⟩
          have b4 := keep hb4
          clear hb4
          go_wp2_with fail
          refine (FI.out w4 b4.out).mono ?_
          rintro e w5 ⟨y, rfl, _, _, hb5⟩
          have b5 := keep (b4.out.trans (hb5.mono b4.out.size))
          clear hb5
          unfold ev
          go_wp2
          go_roundw
          case rel => exact ⟨k + 1, by omega, by first | rfl | go_num, hI.out.1.trans ((b5.out.alloc b5.out.size _).mono hI.out.1.size), NX.out⟩
          case measure => simp [intOf]; omega
        | some x =>
          rw [hv] at FI
          have FA : Hid (gotT ds Fl key s = some x) := by show _ = _; rw [GV.out]; exact FND.out x hv
          simp only [Option.isSome_some, Option.getD_some] at FI
          clear hv
          go_wp2_with fail
          refine LI.out.mono ?_
          rintro e w4 ⟨rfl, hb4⟩
          have b4 := keep hb4
          clear hb4
          go_wp2_with fail
          refine (FI.out w4 b4.out).mono ?_
          rintro e w6 ⟨y, rfl, hye, hyo, hb6⟩
          obtain ⟨ykp, ykc, yvp, yvc, ⟨ykey, yseq, ygone, yval⟩⟩ := y
          obtain ⟨w5, hw5⟩ : ∃ w5, w6.alloc (.cells #[.slice ykp ykey.length ykc, .int .i64 yseq, .bool ygone, .slice yvp yval.length yvc] 37) = w5 := ⟨_, rfl⟩
          have b65 : Hid (Below w6.heap.size w6 w5) := by rw [← hw5]; exact (Below.refl _ _).alloc (Nat.le_refl _) _
          have g65 : Hid (w5.heap[w6.heap.size]? = some (.cells #[.slice ykp ykey.length ykc, .int .i64 yseq, .bool ygone, .slice yvp yval.length yvc] 37)) := by rw [← hw5]; exact heap_alloc_new w6 _
          have bD := keep (hI.out.1.trans ((b4.out.trans ((hb6.trans (b65.out.mono hb6.size)).mono b4.out.size)).mono hI.out.1.size))
          have G5 : Hid (w5.heap[w.heap.size]? = some (.cells #[.slice none 0 0, .int .i64 0, .bool false, .slice none 0 0] 37)) := (bD.out.block _ gl.out).trans g1.out
          have BL5 := keep (b1.out.trans (bD.out.mono b1.out.size))
          have HYE := keep hye
          have O5 : Hid (OwnE w.heap.size w5 ⟨ykp, ykc, yvp, yvc, ⟨ykey, yseq, ygone, yval⟩⟩) := by
            have o := hyo.base (Nat.le_trans HB.out.size b4.out.size)
            exact ⟨own_block o.1 (fun g hg => b65.out.block g (own_size o.1 hg)), own_block o.2 (fun g hg => b65.out.block g (own_size o.2 hg))⟩
          have t0 : w5.cell? ⟨w.heap.size, 0, none⟩ = some (.slice none 0 0) := cell_of_row _ _ _ _ _ _ G5.out
          have t1 : w5.cell? ⟨w.heap.size, 1, none⟩ = some (.int .i64 0) := cell_of_row _ _ _ _ _ _ G5.out
          have t2 : w5.cell? ⟨w.heap.size, 2, none⟩ = some (.bool false) := cell_of_row _ _ _ _ _ _ G5.out
          have t3 : w5.cell? ⟨w.heap.size, 3, none⟩ = some (.slice none 0 0) := cell_of_row _ _ _ _ _ _ G5.out
          have f0 : w5.frozen? ⟨w.heap.size, 0, none⟩ = false := by simp [World.frozen?, G5.out]
          have f1 : w5.frozen? ⟨w.heap.size, 1, none⟩ = false := by simp [World.frozen?, G5.out]
          have f2 : w5.frozen? ⟨w.heap.size, 2, none⟩ = false := by simp [World.frozen?, G5.out]
          have f3 : w5.frozen? ⟨w.heap.size, 3, none⟩ = false := by simp [World.frozen?, G5.out]
          have r0 : w5.cell? ⟨w6.heap.size, 0, none⟩ = some (.slice ykp ykey.length ykc) := cell_of_row _ _ _ _ _ _ g65.out
          have r1 : w5.cell? ⟨w6.heap.size, 1, none⟩ = some (.int .i64 yseq) := cell_of_row _ _ _ _ _ _ g65.out
          have r2 : w5.cell? ⟨w6.heap.size, 2, none⟩ = some (.bool ygone) := cell_of_row _ _ _ _ _ _ g65.out
          have r3 : w5.cell? ⟨w6.heap.size, 3, none⟩ = some (.slice yvp yval.length yvc) := cell_of_row _ _ _ _ _ _ g65.out
          unfold ev
          simp only
          clear hye hyo hb6
          go_wp2
          have far : ∀ {v : Value} {n : Nat} {xs : List Value}, w5.ownsRow w.heap.size 5 1 v n xs → ∀ g, v.ownBlock = some g → g ≠ w.heap.size := fun {v n xs} h g hg e => by
            obtain ⟨cur, hc⟩ := own_tag h hg
            rw [e, G5.out] at hc
            cases hc
          refine ⟨rfl, .tuple #[.agg #[.slice ykp ykey.length ykc, .int .i64 yseq, .bool ygone, .slice yvp yval.length yvc], .bool true], ?_, ⟨ykp, ykc, yvp, yvc, ⟨ykey, yseq, ygone, yval⟩⟩, ?_, ?_, ?_, ?_⟩
          · have s0 : (w5.setCell ⟨w.heap.size, 0, none⟩ (.slice ykp ykey.length ykc)).cell? ⟨w.heap.size, 0, none⟩ = some (.slice ykp ykey.length ykc) := World.cell?_setCell_same' _ _ _ (by simp [go_sem, t0])
            have s1 : ((w5.setCell ⟨w.heap.size, 0, none⟩ (.slice ykp ykey.length ykc)).setCell ⟨w.heap.size, 1, none⟩ (.int .i64 yseq)).cell? ⟨w.heap.size, 1, none⟩ = some (.int .i64 yseq) := World.cell?_setCell_same' _ _ _ (by simp [go_sem, t1])
            have s2 : (((w5.setCell ⟨w.heap.size, 0, none⟩ (.slice ykp ykey.length ykc)).setCell ⟨w.heap.size, 1, none⟩ (.int .i64 yseq)).setCell ⟨w.heap.size, 2, none⟩ (.bool ygone)).cell? ⟨w.heap.size, 2, none⟩ = some (.bool ygone) := World.cell?_setCell_same' _ _ _ (by simp [go_sem, t2])
            have s3 : ((((w5.setCell ⟨w.heap.size, 0, none⟩ (.slice ykp ykey.length ykc)).setCell ⟨w.heap.size, 1, none⟩ (.int .i64 yseq)).setCell ⟨w.heap.size, 2, none⟩ (.bool ygone)).setCell ⟨w.heap.size, 3, none⟩ (.slice yvp yval.length yvc)).cell? ⟨w.heap.size, 3, none⟩ = some (.slice yvp yval.length yvc) := World.cell?_setCell_same' _ _ _ (by simp [go_sem, t3])
            simp [results, Tryz.f13, go_sem, loadCells, loadCellsFrom, s0, s1, s2, s3]
          · rw [FA.out]; rfl
          · rw [FA.out]; exact HYE.out
          · refine ⟨?_, ?_⟩
            · refine own_block O5.out.1 (fun g hg => ?_)
              have h1 := far O5.out.1 g hg
              simp only [set_far _ _ h1]
            · refine own_block O5.out.2 (fun g hg => ?_)
              have h1 := far O5.out.2 g hg
              simp only [set_far _ _ h1]
          · exact ((((BL5.out.setCell (p := ⟨w.heap.size, 0, none⟩) (Nat.le_refl _) _).setCell (p := ⟨w.heap.size, 1, none⟩) (Nat.le_refl _) _).setCell (p := ⟨w.heap.size, 2, none⟩) (Nat.le_refl _) _).setCell (p := ⟨w.heap.size, 3, none⟩) (Nat.le_refl _) _)
      · obtain rfl : k = N := by omega
        have ll : ¬ (k : Int) < (k : Int) := by omega
        have G5 : Hid (wr.heap[w.heap.size]? = some (.cells #[.slice none 0 0, .int .i64 0, .bool false, .slice none 0 0] 37)) := (hI.out.1.block _ gl.out).trans g1.out
        have FN : Hid (gotT ds Fl key s = none) := by
          have h1 := hI.out.2
          rw [List.take_of_length_le (by rw [HN.out]; exact Nat.le_refl _)] at h1
          show _ = _
          rw [GV.out]
          exact h1
        have t0 : wr.cell? ⟨w.heap.size, 0, none⟩ = some (.slice none 0 0) := cell_of_row _ _ _ _ _ _ G5.out
        have t1 : wr.cell? ⟨w.heap.size, 1, none⟩ = some (.int .i64 0) := cell_of_row _ _ _ _ _ _ G5.out
        have t2 : wr.cell? ⟨w.heap.size, 2, none⟩ = some (.bool false) := cell_of_row _ _ _ _ _ _ G5.out
        have t3 : wr.cell? ⟨w.heap.size, 3, none⟩ = some (.slice none 0 0) := cell_of_row _ _ _ _ _ _ G5.out
        have f0 : wr.frozen? ⟨w.heap.size, 0, none⟩ = false := by simp [World.frozen?, G5.out]
        have f1 : wr.frozen? ⟨w.heap.size, 1, none⟩ = false := by simp [World.frozen?, G5.out]
        have f2 : wr.frozen? ⟨w.heap.size, 2, none⟩ = false := by simp [World.frozen?, G5.out]
        have f3 : wr.frozen? ⟨w.heap.size, 3, none⟩ = false := by simp [World.frozen?, G5.out]
        go_wp2
        refine ⟨rfl, .tuple #[ev evZ, .bool false], ?_, evZ, ?_, ?_, ⟨World.ownsRow_nil _ _ _ _, World.ownsRow_nil _ _ _ _⟩, ?_⟩
        · have s0 : (wr.setCell ⟨w.heap.size, 0, none⟩ (.slice none 0 0)).cell? ⟨w.heap.size, 0, none⟩ = some (.slice none 0 0) := World.cell?_setCell_same' _ _ _ (by simp [go_sem, t0])
          have s1 : ((wr.setCell ⟨w.heap.size, 0, none⟩ (.slice none 0 0)).setCell ⟨w.heap.size, 1, none⟩ (.int .i64 0)).cell? ⟨w.heap.size, 1, none⟩ = some (.int .i64 0) := World.cell?_setCell_same' _ _ _ (by simp [go_sem, t1])
          have s2 : (((wr.setCell ⟨w.heap.size, 0, none⟩ (.slice none 0 0)).setCell ⟨w.heap.size, 1, none⟩ (.int .i64 0)).setCell ⟨w.heap.size, 2, none⟩ (.bool false)).cell? ⟨w.heap.size, 2, none⟩ = some (.bool false) := World.cell?_setCell_same' _ _ _ (by simp [go_sem, t2])
          have s3 : ((((wr.setCell ⟨w.heap.size, 0, none⟩ (.slice none 0 0)).setCell ⟨w.heap.size, 1, none⟩ (.int .i64 0)).setCell ⟨w.heap.size, 2, none⟩ (.bool false)).setCell ⟨w.heap.size, 3, none⟩ (.slice none 0 0)).cell? ⟨w.heap.size, 3, none⟩ = some (.slice none 0 0) := World.cell?_setCell_same' _ _ _ (by simp [go_sem, t3])
          simp [results, Tryz.f13, go_sem, loadCells, loadCellsFrom, s0, s1, s2, s3, ev, evZ]
        · rw [FN.out]; rfl
        · rw [FN.out]; rfl
        · exact ((((HB.out.setCell (p := ⟨w.heap.size, 0, none⟩) (Nat.le_refl _) _).setCell (p := ⟨w.heap.size, 1, none⟩) (Nat.le_refl _) _).setCell (p := ⟨w.heap.size, 2, none⟩) (Nat.le_refl _) _).setCell (p := ⟨w.heap.size, 3, none⟩) (Nat.le_refl _) _)
end Go.Proofs.YtjblicgbdecbcaaGreat
namespace Go.Proofs.YtjblicgbdecbcaaGreat
open Go.RowKit Go.Shelf
open Sk (Ent)
attribute [local go_sem] Oper.semAt_some

/-- All entries, as they lie. -/
def evsD (ds : List DE) : List EV := ds.flatMap (·.ys)
def nthE (ds : List DE) (i : Nat) : EV := (evsD ds).getD i evZ
theorem evsD_take {ds : List DE} {k : Nat} {d : DE} (h : ds[k]? = some d) : evsD (ds.take (k + 1)) = evsD (ds.take k) ++ d.ys := by
  unfold evsD
  rw [List.take_add_one, h, List.flatMap_append]
  simp
theorem nthE_at {ds : List DE} {k j : Nat} {d : DE} {y : EV} (h : ds[k]? = some d) (hy : d.ys[j]? = some y) : nthE ds ((evsD (ds.take k)).length + j) = y := by
  have e2 : evsD ds = evsD (ds.take (k + 1)) ++ evsD (ds.drop (k + 1)) := by
    have h2 : evsD (ds.take (k + 1) ++ ds.drop (k + 1)) = evsD (ds.take (k + 1)) ++ evsD (ds.drop (k + 1)) := by unfold evsD; rw [List.flatMap_append]
    rwa [List.take_append_drop] at h2
  have hj := (List.getElem?_eq_some_iff.1 hy).1
  unfold nthE
  rw [e2, evsD_take h, List.getD_eq_getElem?_getD, List.getElem?_append_left (by rw [List.length_append]; omega), List.getElem?_append_right (by omega), Nat.add_sub_cancel_left, hy]
  rfl
theorem evsD_le (ds : List DE) (k : Nat) : (evsD (ds.take k)).length ≤ (evsD ds).length := by
  have h2 : evsD (ds.take k ++ ds.drop k) = evsD (ds.take k) ++ evsD (ds.drop k) := by unfold evsD; rw [List.flatMap_append]
  rw [List.take_append_drop] at h2
  rw [h2, List.length_append]
  omega
set_option maxHeartbeats 8000000 in
set_option maxRecDepth 100000 in
theorem each1_in (nn : Nat) (hn : 1 ≤ nn) (l Bt tb n0 : Nat) (ds : List DE) (Fl : List UInt8) (w : World) (hw : w.heap.size = n0) (hl : ds.length ≤ 64) (hds : ∀ d ∈ ds, d.ys.length ≤ 64) (J Jx : List Nat → World → Prop) (W : World) (hW : Below n0 w W)
    (hJ : AbidesFrom W.heap.size J)
    (hY : ∀ pre x W1, J pre W1 → pre.length < (evsD ds).length → YieldAt Fence.wide (nn - 1) Tryz.prog l #[ev (nthE ds x)] W1 fun e W' =>
      (e = .returned (.bool true) ∧ J (pre ++ [x]) W' ∧ Below n0 W1 W') ∨ (e = .returned (.bool false) ∧ Jx (pre ++ [x]) W'))
    (cB : W.cell? ⟨Bt, 0, none⟩ = some (.pointer (some ⟨tb, 0, none⟩))) (hT : TDone w tb ds Fl) (h0 : J [] W) :
    CallsIn Fence.wide nn Tryz.prog 78 #[.func (.yield l) #[] #[], .pointer (some ⟨Bt, 0, none⟩)] W fun e W' => (∃ v, e = .returned v) ∧
      ((∃ ys, ys = List.range (evsD ds).length ∧ J ys W') ∨ (∃ pre, (∃ k, k ≤ (evsD ds).length ∧ pre = List.range k) ∧ Jx pre W')) := by
  obtain ⟨pa, pc, fa, fc, h1, h2, _⟩ := hT.tab
  have TD := keep hT
  have PR := keep h2
  have HJ := keep hJ
  have HY := keep hY
  have H0 := keep h0
  have HW := keep hw
  have BW : Hid (Below w.heap.size w W) := by rw [hw]; exact hW
  have c0 : W.cell? ⟨tb, 0, none⟩ = some (.slice pa ds.length pc) := below_cell BW.out (cell_of_row _ _ _ _ _ _ h1)
  obtain ⟨N, hN⟩ : ∃ N, ds.length = N := ⟨_, rfl⟩
  have HN := keep hN
  rw [hN] at c0 PR hl
  clear hJ hY h0 hT h1 h2 hN hw hW
  refine callsIn_of_wp Tryz.func78 rfl trivial ?_ rfl
  simp only [Tryz.ntmps78, List.size_toArray, List.length_cons, List.length_nil, Nat.reduceAdd, Nat.reduceSub, Array.replicate_succ, Array.replicate_zero, List.push_toArray, List.append_toArray, List.nil_append, List.cons_append]
  gi_wp2
  gi_loopw [14] (fun i wr => ∃ k : Nat, k ≤ N ∧ i = .int .i64 (k : Int) ∧ Hid (Below w.heap.size w wr ∧ W.heap.size ≤ wr.heap.size ∧ J (List.range (evsD (ds.take k)).length) wr)) (fun i _ => N - (intOf i).toNat)
  case atStart => exact ⟨0, by omega, rfl, BW.out, Nat.le_refl _, H0.out⟩
  case round =>
    clear c0 cB H0
    obtain ⟨k, hk, rfl, hI⟩ := hrel
    by_cases hkn : k < N
    · obtain ⟨pb, po, rfl, _, _⟩ := PR.out.form ptrKind_ok (by omega)
      obtain ⟨d, hd⟩ : ∃ d, ds[k]? = some d := ⟨ds[k]'(by rw [HN.out]; exact hkn), List.getElem?_eq_getElem _⟩
      have p0 : wr.cell? ⟨pb, po + k, none⟩ = some (.pointer (some ⟨d.blk, 0, none⟩)) := ptr_cell (PR.out.below ptrKind_ok hI.out.1) (i := k) (by rw [List.getElem?_map, hd]; rfl)
      have PD := keep (TD.out.each d (List.mem_of_getElem? hd))
      have hdl := hds d (List.mem_of_getElem? hd)
      have HD := keep hd
      have LI := keep (list_again d.blk d.ea d.ys.length d.ec wr (PD.out.below hI.out.1).row)
      have j0 : (0 : Int) ≤ (k : Int) := by omega
      have ll : (k : Int) < (N : Int) := by omega
      have OT : Hid ((evsD (ds.take (k + 1))).length = (evsD (ds.take k)).length + d.ys.length) := by show _ = _; rw [evsD_take hd, List.length_append]
      have LE := keep (evsD_le ds (k + 1))
      obtain ⟨O, hO⟩ : ∃ O, (evsD (ds.take k)).length = O := ⟨_, rfl⟩
      have HO := keep hO
      rw [hO] at OT hI
      clear hd hO
      gi_wp2_with fail
      refine ⟨trivial, ?_⟩
      refine (callsIn_wide.2 LI.out).mono ?_
      rintro e w2 ⟨rfl, hb2⟩
      have J2 := keep (HJ.out _ wr w2 none hI.out.2.2 (grown_of_below hb2) (fun r e => by cases e))
      have B2 := keep (hI.out.1.trans (hb2.mono hI.out.1.size))
      have S2 : Hid (W.heap.size ≤ w2.heap.size) := Nat.le_trans hI.out.2.1 hb2.size
      clear hb2 hI LI p0
      obtain ⟨M, hM⟩ : ∃ M, d.ys.length = M := ⟨_, rfl⟩
      have HM := keep hM
      rw [hM] at OT hdl ⊢
      clear hM
      gi_wp2
      gi_loopw [21] (fun i wr => ∃ j : Nat, j ≤ M ∧ i = .int .i64 (j : Int) ∧ Hid (Below w.heap.size w wr ∧ W.heap.size ≤ wr.heap.size ∧ J (List.range (O + j)) wr)) (fun i _ => M - (intOf i).toNat)
      case atStart => exact ⟨0, by omega, rfl, B2.out, S2.out, J2.out⟩
      case round =>
        clear J2 B2 S2
        obtain ⟨j, hj, rfl, hI⟩ := hrel
        by_cases hjm : j < M
        · have ER := keep (PD.out.ents.below entKind_ok hI.out.1)
          obtain ⟨eb, eo, hea, _, _⟩ := ER.out.form entKind_ok (by rw [HM.out]; omega)
          obtain ⟨y, hy⟩ : ∃ y, d.ys[j]? = some y := ⟨d.ys[j]'(by rw [HM.out]; exact hjm), List.getElem?_eq_getElem _⟩
          rw [hea] at ER
          obtain ⟨q0, q1, q2, q3⟩ := ent_cells ER.out hy
          have NT := keep (nthE_at HD.out hy)
          rw [HO.out] at NT
          obtain ⟨W5, hW5⟩ : ∃ W5, wr.alloc (.cells #[.slice y.kp y.e.key.length y.kc, .int .i64 y.e.seq, .bool y.e.gone, .slice y.vp y.e.val.length y.vc] 37) = W5 := ⟨_, rfl⟩
          have b5 : Hid (Below wr.heap.size wr W5) := by rw [← hW5]; exact (Below.refl _ _).alloc (Nat.le_refl _) _
          have g5 : Hid (W5.heap[wr.heap.size]? = some (.cells #[.slice y.kp y.e.key.length y.kc, .int .i64 y.e.seq, .bool y.e.gone, .slice y.vp y.e.val.length y.vc] 37)) := by rw [← hW5]; exact heap_alloc_new wr _
          have r0 : W5.cell? ⟨wr.heap.size, 0, none⟩ = some (.slice y.kp y.e.key.length y.kc) := cell_of_row _ _ _ _ _ _ g5.out
          have r1 : W5.cell? ⟨wr.heap.size, 1, none⟩ = some (.int .i64 y.e.seq) := cell_of_row _ _ _ _ _ _ g5.out
          have r2 : W5.cell? ⟨wr.heap.size, 2, none⟩ = some (.bool y.e.gone) := cell_of_row _ _ _ _ _ _ g5.out
          have r3 : W5.cell? ⟨wr.heap.size, 3, none⟩ = some (.slice y.vp y.e.val.length y.vc) := cell_of_row _ _ _ _ _ _ g5.out
          have J5 := keep (HJ.out _ wr W5 none hI.out.2.2 (grown_of_below b5.out) (fun r e => by cases e))
          have B5 := keep (hI.out.1.trans (b5.out.mono hI.out.1.size))
          have S5 : Hid (W.heap.size ≤ W5.heap.size) := Nat.le_trans hI.out.2.1 b5.out.size
          obtain ⟨fn, tmps, assign, body, hyl, hR⟩ := HY.out _ (O + j) W5 J5.out (by rw [List.length_range]; have := LE.out; have := OT.out; omega)
          rw [NT.out] at hyl
          unfold ev at hyl
          have jj0 : (0 : Int) ≤ (j : Int) := by omega
          have jll : (j : Int) < (M : Int) := by omega
          rw [hea]
          clear hI hy hea
          gi_wp2
          refine hR.mono ?_
          rintro e W3 (⟨rfl, hJ3, hk3⟩ | ⟨rfl, hJx3⟩)
          · have I3 : Hid (Below w.heap.size w W3 ∧ W.heap.size ≤ W3.heap.size ∧ J (List.range (O + (j + 1))) W3) := ⟨B5.out.trans (by rw [HW.out]; exact hk3), Nat.le_trans S5.out hk3.size, by rw [show O + (j + 1) = (O + j) + 1 by omega, List.range_succ]; exact hJ3⟩
            clear hJ3 hk3
            gi_wp2
            go_roundw
            case rel => exact ⟨j + 1, by omega, by first | rfl | go_num, I3.out⟩
            case measure => simp [intOf]; omega
          · gi_wp2
            refine bodyPost_ret (results_none rfl _ _ _) rfl ?_
            exact ⟨⟨_, rfl⟩, .inr ⟨_, ⟨O + j + 1, by have := LE.out; have := OT.out; omega, List.range_succ.symm⟩, hJx3⟩⟩
        · obtain rfl : j = M := by omega
          have jll : ¬ (j : Int) < (j : Int) := by omega
          gi_wp2
          go_roundw
          case rel => exact ⟨k + 1, by omega, by first | rfl | go_num, by rw [OT.out]; exact hI.out⟩
          case measure => simp [intOf]; omega
    · obtain rfl : k = N := by omega
      have ll : ¬ (k : Int) < (k : Int) := by omega
      have EN : Hid (J (List.range (evsD ds).length) wr) := by
        have := hI.out.2.2
        rw [List.take_of_length_le (by rw [HN.out]; exact Nat.le_refl _)] at this
        exact this
      gi_wp2
      go_end0
      exact ⟨⟨_, rfl⟩, .inl EN.out⟩
theorem each_stops (nn : Nat) (hn : 1 ≤ nn) (Bt tb n0 : Nat) (ds : List DE) (Fl : List UInt8) (w w9 : World) (hw : w.heap.size = n0) (hb : Below n0 w w9) (hl : ds.length ≤ 64) (hds : ∀ d ∈ ds, d.ys.length ≤ 64) (hT : TDone w tb ds Fl)
    (hBt : w9.cell? ⟨Bt, 0, none⟩ = some (.pointer (some ⟨tb, 0, none⟩))) :
    SeqStopsK Fence.wide nn Tryz.prog 78 #[.pointer (some ⟨Bt, 0, none⟩)] (fun i : Nat => #[ev (nthE ds i)]) (Below n0) (fun ys => ys = List.range (evsD ds).length) (fun pre => ∃ k, k ≤ (evsD ds).length ∧ pre = List.range k) (evsD ds).length w9 :=
  fun l J Jx W hW hJ _ hY h0 => each1_in nn hn l Bt tb n0 ds Fl w hw hl hds J Jx W (hb.trans (hW.mono (by rw [← hw]; have := hb.size; omega))) hJ hY (belowc hW hBt) hT h0
set_option maxHeartbeats 1000000 in
set_option maxRecDepth 100000 in
theorem each_any (tb : Nat) (w : World) : Calls Tryz.prog 48 #[.pointer (some ⟨tb, 0, none⟩)] w fun e w' => e = .returned (.func (.func 78) #[] #[.pointer (some ⟨w.heap.size, 0, none⟩)]) ∧ w' = w.alloc (.cells #[.pointer (some ⟨tb, 0, none⟩)] 31) := by
  have hmf : ∀ (fn : Fn) (first cap : Array Value) (w : World), (Instr.makeFunc fn first cap).run Tryz.prog w = .ok (.func fn first cap) w := fun _ _ _ _ => rfl
  go_enter Tryz.func48, Tryz.ntmps48
  go_wp2
  go_ret
  exact ⟨rfl, rfl⟩
end Go.Proofs.YtjblicgbdecbcaaGreat
namespace Go.Proofs.YtjblicgbdecbcaaGreat
open Go.RowKit Go.Shelf
open Sk (Ent)
attribute [local go_sem] Oper.semAt_some

set_option maxHeartbeats 4000000 in
set_option maxRecDepth 100000 in
theorem count_done (tb : Nat) (ds : List DE) (Fl : List UInt8) (w : World) (hT : TDone w tb ds Fl) (hl : ds.length ≤ 64) (hds : ∀ d ∈ ds, d.ys.length ≤ 64) (hev : (evsD ds).length ≤ 4096) :
    Calls Tryz.prog 20 #[.pointer (some ⟨tb, 0, none⟩)] w fun e w' => e = .returned (.int .i64 ((evsD ds).length : Int)) ∧ Below w.heap.size w w' := by
  have TD := keep hT
  obtain ⟨W1, hW1⟩ : ∃ W1, w.alloc (.cells #[.int .i64 0] 3) = W1 := ⟨_, rfl⟩
  have b1 : Hid (Below w.heap.size w W1) := by rw [← hW1]; exact (Below.refl _ _).alloc (Nat.le_refl _) _
  have x1 : Hid (Boxed W1 w.heap.size 3 (.int .i64 0)) := by rw [← hW1]; exact Boxed.new _ _ _
  have HW1 := keep hW1
  clear hT hW1
  rw [← callsIn_wide (n := 8)]
  refine callsIn_of_wp_marks Tryz.func20 rfl trivial ?_ rfl
  simp only [Tryz.ntmps20, List.size_toArray, List.length_cons, List.length_nil, Nat.reduceAdd, Nat.reduceSub, Array.replicate_succ, Array.replicate_zero, List.push_toArray, List.append_toArray, List.nil_append, List.cons_append]
  gi_wp2_with fail
  refine ⟨trivial, ?_⟩
  rw [HW1.out]
  refine (callsIn_wide.2 (each_any tb W1)).mono ?_
  rintro e w9 ⟨rfl, hw9⟩
  have b9 : Hid (Below W1.heap.size W1 w9) := by rw [hw9]; exact (Below.refl _ _).alloc (Nat.le_refl _) _
  have q1 : Hid (w9.cell? ⟨W1.heap.size, 0, none⟩ = some (.pointer (some ⟨tb, 0, none⟩))) := by rw [hw9]; exact cell_of_row _ _ _ _ _ _ (heap_alloc_new W1 _)
  have B9 := keep (b1.out.trans (b9.out.mono b1.out.size))
  have x9 : Hid (Boxed w9 w.heap.size 3 (.int .i64 0)) := (b9.out.block _ x1.out.lt).trans x1.out
  clear hw9 HW1
  gi_wp2_with fail
  refine wpIn_rangeFunc_ownG (α := Nat) (F := Fence.wide) rfl (by decide) (gf := 78) (lb := #[.pointer (some ⟨W1.heap.size, 0, none⟩)]) rfl trivial (enters_of Tryz.func78 (by kernel_rfl) rfl)
    (each_stops 7 (by decide) W1.heap.size tb w.heap.size ds Fl w w9 rfl B9.out hl hds TD.out q1.out) belowK_t (fun W l o o' h1 h2 h3 h4 => belowK_b B9.out.size W l o o' h1 h2 h3 h4) (Below.refl _ _) (fun _ => rfl)
    (fun pre W => Boxed W w.heap.size 3 (.int .i64 (pre.length : Int)) ∧ Below w.heap.size w W)
    (fun _ _ _ => False)
    (fun pre W W' row h hg hr => ⟨h.1.kept hg (fun e => by have := (hr _ e.symm).1; have := x9.out.lt; omega), h.2.grown hg h.2.size (fun k e => by have := (hr k e).1; have := B9.out.size; omega)⟩)
    (fun c pre W W' row h hg hr => h)
    ⟨x9.out, B9.out⟩
    (fun x => { tmps := #[.pointer (some ⟨tb, 0, none⟩), undef, .int .i64 0, .pointer (some ⟨w.heap.size, 0, none⟩), .pointer (some ⟨tb, 0, none⟩), .func (.func 78) #[] #[.pointer (some ⟨W1.heap.size, 0, none⟩)], ev (nthE ds x), undef, undef, undef], defers := [] }) ?assign ?body ?done ?stop
  case assign =>
    intro l x W K hK
    gi_wp2
    simp only [List.zip_toArray, List.zip_cons_cons, List.zip_nil_right, List.foldl_toArray, List.foldl_cons, List.foldl_nil, List.setIfInBounds_toArray, List.set_cons_zero, List.set_cons_succ]
    exact hK
  case body =>
    rintro l pre x W ⟨hx, hb⟩ hlen
    have HX := keep hx
    have HB := keep hb
    have hc := hx.cell
    have hf := hx.frozen
    have sw : IntKind.i64.wrap ((pre.length : Int) + 1) = (pre.length : Int) + 1 := wrap_small _ (by omega) (by omega)
    obtain ⟨z, hz⟩ : ∃ z, nthE ds x = z := ⟨_, rfl⟩
    rw [hz]
    clear hx hb hz
    gi_wp2
    refine ⟨(KeepsOthers.setCell _ _ _).from _, (Below.refl _ _).setCell (p := ⟨w.heap.size, 0, none⟩) (Nat.le_refl _) _, ?_, HB.out.setCell (p := ⟨w.heap.size, 0, none⟩) (Nat.le_refl _) _⟩
    have := HX.out.set (.int .i64 ((pre.length : Int) + 1))
    rw [List.length_append]
    exact this
  case done =>
    rintro D ys W hD rfl ⟨hx, hb⟩ hK
    have hc := hx.cell
    have HB := keep hb
    have HK := keep hK
    rw [List.length_range] at hc
    clear hb hK hx
    gi_wp2
    refine leaves_marks (B := w.heap.size) [D] _ ⟨by simp, fun x hx => ?_, fun x hx => ?_⟩ (fun W' hs => ⟨.int .i64 ((evsD ds).length : Int), ?_, rfl, HB.out.trans (hs.below HB.out.size)⟩)
    · rw [List.mem_singleton.1 hx]; exact Nat.le_trans B9.out.size hD
    · rw [List.mem_singleton.1 hx]; exact HK.out
    · simp [results, Tryz.f20, go_sem]
  case stop =>
    rintro D c pre W hD _ h hK
    exact h.elim
end Go.Proofs.YtjblicgbdecbcaaGreat
