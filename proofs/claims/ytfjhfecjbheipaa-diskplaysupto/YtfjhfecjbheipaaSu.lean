/- The walk of step: Cut, Crash, Read. -/
import Derived.Test.YtfjhfecjbheipaaSt
namespace Go.Proofs.Ytfjhfecjbheipaa
open Go.RowKit
open Dk (File Disk)
variable {X : World → Prop}

set_option maxHeartbeats 2000000 in
set_option maxRecDepth 100000 in
theorem step_cut (w0 : World) (S : Nat → Prop) (w : World) (b q : Nat) (d r : Disk) (o : OpE) (h : Both X w0 S w b q d r) (hh : opKind.held w0 o) (hf : Fine o) (hd0 : d.done ≤ 4611686018427387904) (hr0 : r.done ≤ 4611686018427387904) (hk : tag o.what = 5) :
    Calls Try.prog 8 #[.pointer (some ⟨b, 0, none⟩), .pointer (some ⟨q, 0, none⟩), .agg (opKind.vals o).toArray] w fun e w' => ∃ S' x, e = .returned (.bool x) ∧ (x = true ↔ ((Dk.cut d o.n).1) = ((Dk.cut r o.n).1)) ∧ Both X w0 S' w' b q ((Dk.cut d o.n).2) ((Dk.cut r o.n).2) := by
  obtain ⟨wh, z, a, b2, da0, dc0, da, pp, pc, ps⟩ := o
  simp only [opKind]
  obtain ⟨W0, hW⟩ : ∃ W0, w.alloc (.cells #[.int .i64 wh, .int .i64 z, .string ⟨a.toArray⟩, .string ⟨b2.toArray⟩, .slice da0 da.length dc0, .slice pp ps.length pc] 38) = W0 := ⟨_, rfl⟩
  have B0 : Hid (Both X w0 S W0 b q d r) := by rw [← hW]; exact h.next ((Below.refl _ _).alloc (Nat.le_refl _) _)
  have g0 : Hid (W0.heap[w.heap.size]? = some (.cells #[.int .i64 wh, .int .i64 z, .string ⟨a.toArray⟩, .string ⟨b2.toArray⟩, .slice da0 da.length dc0, .slice pp ps.length pc] 38)) := by rw [← hW]; exact heap_alloc_new w _
  have hold : Hid (∀ g, Go.Proofs.Ytfjhfecjbheipaa.mine S b g → g < w.heap.size) := fun g hg => (h.own.mines g hg).2
  have hqw : Hid (q < w.heap.size) := h.ref.out.2
  have HF := keep hf
  have HH := keep hh
  have fo0 := hd0
  have fo1 := hr0
  have c0 := (cell_of_row _ _ _ _ _ _ g0.out : W0.cell? ⟨w.heap.size, 0, none⟩ = some (.int .i64 wh))
  have c1 := (cell_of_row _ _ _ _ _ _ g0.out : W0.cell? ⟨w.heap.size, 1, none⟩ = some (.int .i64 z))
  have c2 := (cell_of_row _ _ _ _ _ _ g0.out : W0.cell? ⟨w.heap.size, 2, none⟩ = some (.string ⟨a.toArray⟩))
  have c3 := (cell_of_row _ _ _ _ _ _ g0.out : W0.cell? ⟨w.heap.size, 3, none⟩ = some (.string ⟨b2.toArray⟩))
  have c4 := (cell_of_row _ _ _ _ _ _ g0.out : W0.cell? ⟨w.heap.size, 4, none⟩ = some (.slice da0 da.length dc0))
  have c5 := (cell_of_row _ _ _ _ _ _ g0.out : W0.cell? ⟨w.heap.size, 5, none⟩ = some (.slice pp ps.length pc))
  clear h hf hh
  have hK : bits BinOp.and IntKind.i64 wh 7 = 5 := hk
  clear hk
  have KEY1 : Hid (∀ e w1, RawPost S W0.drew b (Dk.cut d z) e w1 → ∃ S1, Hid (Both X w0 S1 w1 b q (Dk.cut d z).2 r) ∧ e = .returned (.int .i64 (((Dk.cut d z).1 : Nat) : Int)) ∧ Hid (∀ (o : Nat) (v : Value), W0.cell? ⟨w.heap.size, o, none⟩ = some v → w1.cell? ⟨w.heap.size, o, none⟩ = some v)) := by
    intro e w1 hp
    have h1 := (B0.out.next ((Below.refl W0.heap.size W0).drew)).left hp
    refine ⟨_, h1.2, h1.1, fun o v hc => ?_⟩
    rw [hp.2.2.cell (p := ⟨w.heap.size, o, none⟩) (World.block_lt_of_cell? W0 _ hc) (fun e => by have := hold.out _ e; simp at this)]
    exact hc
  have C1 := keep (cut_mem S b d z W0.drew (B0.out.next ((Below.refl W0.heap.size W0).drew)).own.mem HF.out.n.2)
  go_enter Try.func8, Try.ntmps8
  go_wp2_with fail
  clear hW
  go_region_held3 (fun w' => w'.cell? ⟨w.heap.size, 1, none⟩ = some (.int .i64 z)) (first | go_keep | exact K1.out _ _ c1 | exact K2.out _ _ (K1.out _ _ c1))
    (first
      | (go_at_call 36; refine C1.out.mono ?_; intro e w1 hp; obtain ⟨S1, B1, rfl, K1⟩ := KEY1.out e w1 hp; clear hp)
      | (go_at_call 37; refine (rcut_ref (Go.Proofs.Ytfjhfecjbheipaa.mine S1 b) q r z _ B1.out.ref HF.out.n.2).mono ?_; intro e w2 hp; obtain ⟨he2, hb2⟩ := B1.out.right hp; subst he2; have B2 := keep hb2; have K2 : Hid (∀ (o : Nat) (v : Value), w1.cell? ⟨w.heap.size, o, none⟩ = some v → w2.cell? ⟨w.heap.size, o, none⟩ = some v) := (fun o v hc => (by rw [hp.2.2.cell (p := ⟨w.heap.size, o, none⟩) (World.block_lt_of_cell? w1 _ hc) (fun e => by have h1 : w.heap.size = q := e; have h2 := hqw.out; omega)]; exact hc)); clear hp hb2))
  go_wp2
  go_ret
  exact ⟨S1, _, rfl, by rw [beq_iff_eq]; omega, B2.out⟩
set_option maxHeartbeats 2000000 in
set_option maxRecDepth 100000 in
theorem step_crash (w0 : World) (S : Nat → Prop) (w : World) (b q : Nat) (d r : Disk) (o : OpE) (h : Both X w0 S w b q d r) (hh : opKind.held w0 o) (hf : Fine o) (hd0 : d.done ≤ 4611686018427387904) (hr0 : r.done ≤ 4611686018427387904) (hk : tag o.what = 6) :
    Calls Try.prog 8 #[.pointer (some ⟨b, 0, none⟩), .pointer (some ⟨q, 0, none⟩), .agg (opKind.vals o).toArray] w fun e w' => ∃ S' x, e = .returned (.bool x) ∧ (x = true ↔ ((((0, Dk.crash d (o.picks.map up)) : Nat × Disk)).1) = ((((0, Dk.crash r (o.picks.map up)) : Nat × Disk)).1)) ∧ Both X w0 S' w' b q ((((0, Dk.crash d (o.picks.map up)) : Nat × Disk)).2) ((((0, Dk.crash r (o.picks.map up)) : Nat × Disk)).2) := by
  obtain ⟨wh, z, a, b2, da0, dc0, da, pp, pc, ps⟩ := o
  simp only [opKind]
  obtain ⟨W0, hW⟩ : ∃ W0, w.alloc (.cells #[.int .i64 wh, .int .i64 z, .string ⟨a.toArray⟩, .string ⟨b2.toArray⟩, .slice da0 da.length dc0, .slice pp ps.length pc] 38) = W0 := ⟨_, rfl⟩
  have B0 : Hid (Both X w0 S W0 b q d r) := by rw [← hW]; exact h.next ((Below.refl _ _).alloc (Nat.le_refl _) _)
  have g0 : Hid (W0.heap[w.heap.size]? = some (.cells #[.int .i64 wh, .int .i64 z, .string ⟨a.toArray⟩, .string ⟨b2.toArray⟩, .slice da0 da.length dc0, .slice pp ps.length pc] 38)) := by rw [← hW]; exact heap_alloc_new w _
  have hold : Hid (∀ g, Go.Proofs.Ytfjhfecjbheipaa.mine S b g → g < w.heap.size) := fun g hg => (h.own.mines g hg).2
  have hqw : Hid (q < w.heap.size) := h.ref.out.2
  have HF := keep hf
  have HH := keep hh
  have fo0 := hd0
  have fo1 := hr0
  have c0 := (cell_of_row _ _ _ _ _ _ g0.out : W0.cell? ⟨w.heap.size, 0, none⟩ = some (.int .i64 wh))
  have c1 := (cell_of_row _ _ _ _ _ _ g0.out : W0.cell? ⟨w.heap.size, 1, none⟩ = some (.int .i64 z))
  have c2 := (cell_of_row _ _ _ _ _ _ g0.out : W0.cell? ⟨w.heap.size, 2, none⟩ = some (.string ⟨a.toArray⟩))
  have c3 := (cell_of_row _ _ _ _ _ _ g0.out : W0.cell? ⟨w.heap.size, 3, none⟩ = some (.string ⟨b2.toArray⟩))
  have c4 := (cell_of_row _ _ _ _ _ _ g0.out : W0.cell? ⟨w.heap.size, 4, none⟩ = some (.slice da0 da.length dc0))
  have c5 := (cell_of_row _ _ _ _ _ _ g0.out : W0.cell? ⟨w.heap.size, 5, none⟩ = some (.slice pp ps.length pc))
  clear h hf hh
  have hK : bits BinOp.and IntKind.i64 wh 7 = 6 := hk
  clear hk
  have hpl : ps.length ≤ maxLen := Nat.le_trans (HH.out.2 : RSrc intKind w0 pp ps.length pc ps).cap HF.out.p
  have KEY1 : Hid (∀ e w1, RawPost S W0.drew b (((0, Dk.crash d (ps.map up)) : Nat × Disk)) e w1 → ∃ S1, Hid (Both X w0 S1 w1 b q (((0, Dk.crash d (ps.map up)) : Nat × Disk)).2 r) ∧ e = .returned (.int .i64 (((((0, Dk.crash d (ps.map up)) : Nat × Disk)).1 : Nat) : Int)) ∧ Hid (∀ (o : Nat) (v : Value), W0.cell? ⟨w.heap.size, o, none⟩ = some v → w1.cell? ⟨w.heap.size, o, none⟩ = some v)) := by
    intro e w1 hp
    have h1 := (B0.out.next ((Below.refl W0.heap.size W0).drew)).left hp
    refine ⟨_, h1.2, h1.1, fun o v hc => ?_⟩
    rw [hp.2.2.cell (p := ⟨w.heap.size, o, none⟩) (World.block_lt_of_cell? W0 _ hc) (fun e => by have := hold.out _ e; simp at this)]
    exact hc
  have C1 := keep (crash_mem S b d pp ps.length pc ps W0.drew (B0.out.next ((Below.refl W0.heap.size W0).drew)).own.mem ((B0.out.next ((Below.refl W0.heap.size W0).drew)).steady (fun w' hb => (HH.out.2 : RSrc intKind w0 pp ps.length pc ps).below intKind_ok hb)).1 hpl)
  go_enter Try.func8, Try.ntmps8
  go_wp2_with fail
  clear hW
  go_region_held3 (fun w' => w'.cell? ⟨w.heap.size, 5, none⟩ = some (.slice pp ps.length pc)) (first | go_keep | exact K1.out _ _ c5 | exact K2.out _ _ (K1.out _ _ c5))
    (first
      | (go_at_call 21; refine C1.out.mono ?_; intro e w1 hp; obtain ⟨S1, B1, rfl, K1⟩ := KEY1.out e w1 hp; clear hp)
      | (go_at_call 38; refine (rcrash_ref (Go.Proofs.Ytfjhfecjbheipaa.mine S1 b) q r pp ps.length pc ps _ B1.out.ref (B1.out.steady (fun w' hb => (HH.out.2 : RSrc intKind w0 pp ps.length pc ps).below intKind_ok hb)).2.here hpl).mono ?_; intro e w2 hp; obtain ⟨he2, hb2⟩ := B1.out.right hp; subst he2; have B2 := keep hb2; have K2 : Hid (∀ (o : Nat) (v : Value), w1.cell? ⟨w.heap.size, o, none⟩ = some v → w2.cell? ⟨w.heap.size, o, none⟩ = some v) := (fun o v hc => (by rw [hp.2.2.cell (p := ⟨w.heap.size, o, none⟩) (World.block_lt_of_cell? w1 _ hc) (fun e => by have h1 : w.heap.size = q := e; have h2 := hqw.out; omega)]; exact hc)); clear hp hb2))
  go_wp2
  go_ret
  exact ⟨S1, _, rfl, by simp, B2.out⟩
set_option maxHeartbeats 2000000 in
set_option maxRecDepth 100000 in
theorem step_read (w0 : World) (S : Nat → Prop) (w : World) (b q : Nat) (d r : Disk) (o : OpE) (h : Both X w0 S w b q d r) (hh : opKind.held w0 o) (hf : Fine o) (hd0 : d.done ≤ 4611686018427387904) (hr0 : r.done ≤ 4611686018427387904) (hk : ∀ j : Int, 0 ≤ j → j ≤ 6 → (tag o.what == j) = false) :
    Calls Try.prog 8 #[.pointer (some ⟨b, 0, none⟩), .pointer (some ⟨q, 0, none⟩), .agg (opKind.vals o).toArray] w fun e w' => ∃ x, e = .returned (.bool x) ∧ (x = true ↔ (readOf d.files o.a, (Dk.look d.files o.a).isSome) = (readOf r.files o.a, (Dk.look r.files o.a).isSome)) ∧ Both X w0 S w' b q d r := by
  obtain ⟨wh, z, a, b2, da0, dc0, da, pp, pc, ps⟩ := o
  simp only [opKind]
  obtain ⟨W0, hW⟩ : ∃ W0, w.alloc (.cells #[.int .i64 wh, .int .i64 z, .string ⟨a.toArray⟩, .string ⟨b2.toArray⟩, .slice da0 da.length dc0, .slice pp ps.length pc] 38) = W0 := ⟨_, rfl⟩
  have B0 : Hid (Both X w0 S W0 b q d r) := by rw [← hW]; exact h.next ((Below.refl _ _).alloc (Nat.le_refl _) _)
  have g0 : Hid (W0.heap[w.heap.size]? = some (.cells #[.int .i64 wh, .int .i64 z, .string ⟨a.toArray⟩, .string ⟨b2.toArray⟩, .slice da0 da.length dc0, .slice pp ps.length pc] 38)) := by rw [← hW]; exact heap_alloc_new w _
  have hold : Hid (∀ g, Go.Proofs.Ytfjhfecjbheipaa.mine S b g → g < w.heap.size) := fun g hg => (h.own.mines g hg).2
  have hqw : Hid (q < w.heap.size) := h.ref.out.2
  have HF := keep hf
  have HH := keep hh
  have fo0 := hd0
  have fo1 := hr0
  have c0 := (cell_of_row _ _ _ _ _ _ g0.out : W0.cell? ⟨w.heap.size, 0, none⟩ = some (.int .i64 wh))
  have c1 := (cell_of_row _ _ _ _ _ _ g0.out : W0.cell? ⟨w.heap.size, 1, none⟩ = some (.int .i64 z))
  have c2 := (cell_of_row _ _ _ _ _ _ g0.out : W0.cell? ⟨w.heap.size, 2, none⟩ = some (.string ⟨a.toArray⟩))
  have c3 := (cell_of_row _ _ _ _ _ _ g0.out : W0.cell? ⟨w.heap.size, 3, none⟩ = some (.string ⟨b2.toArray⟩))
  have c4 := (cell_of_row _ _ _ _ _ _ g0.out : W0.cell? ⟨w.heap.size, 4, none⟩ = some (.slice da0 da.length dc0))
  have c5 := (cell_of_row _ _ _ _ _ _ g0.out : W0.cell? ⟨w.heap.size, 5, none⟩ = some (.slice pp ps.length pc))
  clear h hf hh
  have k0 : (bits BinOp.and IntKind.i64 wh 7 == 0) = false := hk 0 (by decide) (by decide)
  have k1 : (bits BinOp.and IntKind.i64 wh 7 == 1) = false := hk 1 (by decide) (by decide)
  have k2 : (bits BinOp.and IntKind.i64 wh 7 == 2) = false := hk 2 (by decide) (by decide)
  have k3 : (bits BinOp.and IntKind.i64 wh 7 == 3) = false := hk 3 (by decide) (by decide)
  have k4 : (bits BinOp.and IntKind.i64 wh 7 == 4) = false := hk 4 (by decide) (by decide)
  have k5 : (bits BinOp.and IntKind.i64 wh 7 == 5) = false := hk 5 (by decide) (by decide)
  have k6 : (bits BinOp.and IntKind.i64 wh 7 == 6) = false := hk 6 (by decide) (by decide)
  clear hk fo0 fo1 hd0 hr0
  go_enter Try.func8, Try.ntmps8
  go_wp2_with fail
  clear hW
  refine (read_mem S b d a _ B0.out.own.mem HF.out.a).mono ?_
  rintro e w1 ⟨v1, rfl, hv1⟩
  have B1 := keep (B0.out.next hv1.2)
  have b1 := keep hv1.2
  obtain ⟨ao1, x1, rfl, hs1, _⟩ := hv1.src
  have S1 := keep hs1
  have d2 := below_cell b1.out c2
  clear hv1 hs1
  go_wp2_with fail
  refine (rread_any (Go.Proofs.Ytfjhfecjbheipaa.mine S b) q r a _ B1.out.ref).mono ?_
  rintro e w2 ⟨v2, rfl, hv2⟩
  have B2 := keep (B1.out.next hv2.2)
  have b2' := keep hv2.2
  obtain ⟨ao2, x2, rfl, hs2, _⟩ := hv2.src
  have g2 := below_cell b2'.out d2
  have SS2 := keep hs2
  obtain ⟨r1, hr1⟩ : ∃ r1, readOf d.files a = r1 := ⟨_, rfl⟩
  obtain ⟨r2, hr2⟩ : ∃ r2, readOf r.files a = r2 := ⟨_, rfl⟩
  have R1 := keep hr1
  have R2 := keep hr2
  rw [hr1] at S1 ⊢
  rw [hr2] at SS2 ⊢
  clear hv2 hs2 d2 hr1 hr2
  obtain ⟨e1, l1⟩ := r1
  obtain ⟨e2, l2⟩ := r2
  have HA : Hid (∀ w', Below w2.heap.size w2 w' → Both X w0 S w' b q d r) := fun w' hb => B2.out.next hb
  have y0 : Hid (Src w2 ao1 l1.length x1 l1) := S1.out.below b2'.out
  have y9 : Hid (Src w2 ao2 l2.length x2 l2) := SS2.out
  simp only
  by_cases h1 : e1 = e2
  · have y1 : ((e1 : Int) == (e2 : Int)) = true := by rw [beq_iff_eq]; omega
    by_cases h2 : l1 = l2
    · have y2 : (l1 == l2) = true := by simpa using h2
      have KS : Hid (∀ w', Below w2.heap.size w2 w' → Below w2.heap.size w2 w' ∧ (convert 35 9 (.slice ao1 l1.length x1)).run Try.prog w' = .ok (.string ⟨l1.toArray⟩) w' ∧ (convert 35 9 (.slice ao2 l2.length x2)).run Try.prog w' = .ok (.string ⟨l2.toArray⟩) w' ∧ w'.cell? ⟨w.heap.size, 2, none⟩ = some (.string ⟨a.toArray⟩)) := fun w' hb => ⟨hb, conv_src (y0.out.below hb), conv_src (y9.out.below hb), below_cell hb g2⟩
      have fin : Hid (((readOf d.files a, (Dk.look d.files a).isSome) = (readOf r.files a, (Dk.look r.files a).isSome)) ↔ ((Dk.look d.files a).isSome = (Dk.look r.files a).isSome)) := by
        show _ ↔ _
        rw [R1.out, R2.out, h1, h2]; simp
      clear S1 SS2 h1 h2
      go_wp2_with fail
      go_region_held3 (fun w' => Below w2.heap.size w2 w' ∧ (convert 35 9 (.slice ao1 l1.length x1)).run Try.prog w' = .ok (.string ⟨l1.toArray⟩) w' ∧ (convert 35 9 (.slice ao2 l2.length x2)).run Try.prog w' = .ok (.string ⟨l2.toArray⟩) w' ∧ w'.cell? ⟨w.heap.size, 2, none⟩ = some (.string ⟨a.toArray⟩))
        (first | exact KS.out _ (Below.refl _ _) | exact KS.out _ b3.out | exact KS.out _ b4.out | (refine KS.out _ ?_; first | exact (Below.refl _ _).drew | exact below_drewN _ _ _ | (refine Below.drew ?_; assumption) | (refine Below.drew ?_; exact b3.out) | (refine Below.drew ?_; exact b4.out)))
        (first
          | (go_at_call 40; refine (has_mem S b d a _ (HA.out _ (by first | exact Below.refl _ _ | exact (Below.refl _ _).drew | assumption)).own.mem HF.out.a).mono ?_; rintro e w3 ⟨rfl, hb3⟩; have b3 : Hid (Below w2.heap.size w2 w3) := by { first | exact hb3 | exact (Below.refl _ _).drew.trans hb3 | (refine Below.trans ?_ (hb3.mono ?_) <;> first | assumption | (refine Below.size ?_; assumption)) }; clear hb3)
          | (go_at_call 28; obtain ⟨rao, rn, rc, res, hR⟩ := (HA.out _ b3.out).ref; refine (rhas_any _ q rao rn rc res r.files a _ hR.box.c1 hR.rows hR.few).mono ?_; rintro e w4 ⟨rfl, hb4⟩; have b4 := keep (b3.out.trans (hb4.mono b3.out.size)); clear hb4 hR))
      go_wp2
      go_ret
      refine ⟨_, rfl, ?_, HA.out _ b4.out⟩
      show _ ↔ (readOf d.files a, (Dk.look d.files a).isSome) = (readOf r.files a, (Dk.look r.files a).isSome)
      rw [fin.out]
      simp
    · have y2 : (l1 == l2) = false := by simpa using h2
      have cv1 := fun m => conv_src (y0.out.below (below_drewN w2.heap.size w2 m))
      have cv2 := fun m => conv_src (y9.out.below (below_drewN w2.heap.size w2 m))
      have fin : Hid (¬ (readOf d.files a, (Dk.look d.files a).isSome) = (readOf r.files a, (Dk.look r.files a).isSome)) := by
        show ¬ _
        rw [R1.out, R2.out]; simp [h2]
      clear S1 SS2 h1 h2
      go_wp2_with fail
      go_quiet (fail)
      have hb2 : Hid (Below w2.heap.size w2 (w2.drewN nq)) := below_drewN _ _ _
      go_wp2
      go_ret
      exact ⟨_, rfl, by simp [fin.out], HA.out _ hb2.out⟩
  · have y1 : ((e1 : Int) == (e2 : Int)) = false := by rw [beq_eq_false_iff_ne]; omega
    have fin : Hid (¬ (readOf d.files a, (Dk.look d.files a).isSome) = (readOf r.files a, (Dk.look r.files a).isSome)) := by
      show ¬ _
      rw [R1.out, R2.out]; simp [h1]
    clear S1 SS2 h1
    go_wp2_with fail
    go_quiet (fail)
    have hb2 : Hid (Below w2.heap.size w2 (w2.drewN nq)) := below_drewN _ _ _
    go_wp2
    go_ret
    exact ⟨_, rfl, by simp [fin.out], HA.out _ hb2.out⟩
end Go.Proofs.Ytfjhfecjbheipaa
