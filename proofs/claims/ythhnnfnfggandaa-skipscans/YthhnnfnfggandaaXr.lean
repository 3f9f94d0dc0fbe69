/- The walk of step: both lists, one operation. -/
import Derived.Test.YthhnnfnfggandaaJoinXj
namespace Go.Proofs.Ythhnnfnfggandaa
open Go.RowKit
open Sk (Ent)

/-- An operation as a value. -/
def opv (o : OpS) : Value := .agg #[.int .i64 o.what, .int .i64 o.h, .int .i64 o.n, .slice o.x.kp o.x.e.key.length o.x.kc, .int .i64 o.x.e.seq, .bool o.x.e.gone, .slice o.x.vp o.x.e.val.length o.x.vc, .slice o.tp o.to.length o.tc]
/-- An operation's bytes are within reach. -/
def OpS.fits (o : OpS) : Prop := o.x.e.key.length ≤ 140737488355328 ∧ o.x.e.val.length ≤ 140737488355328 ∧ o.to.length ≤ 140737488355328
/-- What step leaves. -/
def Stepped (w0 : World) (l r : Nat) (m : Nat) (e : Ending) (w' : World) : Prop := e = .returned (.bool true) ∧ ∃ ns ys hs, Twin w0 l ns r ys hs w' ∧ ns.length ≤ m + 1
theorem dscan_length (l : List Ent) (f t : List UInt8) (s : Int) : (dscan l f t s).length ≤ l.length := by
  have h : ∀ (l acc : List Ent), (l.foldl (dstep f t s) acc).length ≤ acc.length + l.length := by
    intro l
    induction l with
    | nil => intro acc; simp
    | cons e l ih =>
      intro acc
      have h1 := ih (dstep f t s acc e)
      have h2 : (dstep f t s acc e).length ≤ acc.length + 1 := by
        unfold dstep
        split
        · omega
        · split
          · omega
          · simp
      simp only [List.foldl_cons, List.length_cons]
      omega
  have := h l []
  simpa [dscan] using this
theorem lev_length (l : List (Ent × Int)) (z : Int) : (lev l z).length ≤ l.length := by
  unfold lev
  rw [List.length_map]
  exact List.length_filter_le _ _
set_option maxHeartbeats 4000000 in
set_option maxRecDepth 100000 in
theorem step_two (w0 : World) (l r : Nat) (ns : List Nd) (ys : List EV) (hs : List Int) (o : OpS) (w : World) (hT : Twin w0 l ns r ys hs w) (hln : ns.length ≤ 1000) (ho : opsKind.held w0 o) (hfit : o.fits) :
    Calls Try.prog 8 #[.pointer (some ⟨l, 0, none⟩), .pointer (some ⟨r, 0, none⟩), opv o] w (Stepped w0 l r ns.length) := by
  have TW := keep hT
  have hlen := hT.len
  obtain ⟨what, h, n, x, tp, tc, to⟩ := o
  have HX0 : Hid (entKind.held w0 x) := ho.1
  have HX : Hid (entKind.held w x) := entKind_ok.below ho.1 hT.bel
  have HTO : Hid (Src w tp to.length tc to) := Src.below ho.2 hT.bel
  have hf1 : x.e.key.length ≤ 140737488355328 := hfit.1
  have hf2 : x.e.val.length ≤ 140737488355328 := hfit.2.1
  have hf3 : to.length ≤ 140737488355328 := hfit.2.2
  clear hT ho hfit
  obtain ⟨q, hq, hqe⟩ := and_mask what 7 (by decide)
  have hqe' : bits .and .i64 what 7 = (q : Int) := hqe
  clear hqe
  obtain ⟨kp, kc, vp, vc, ⟨key, seq, gone, val⟩⟩ := x
  unfold opv
  simp only at hf1 hf2 ⊢
  obtain ⟨W1, hW1⟩ : ∃ W1, w.alloc (.cells #[.int .i64 what, .int .i64 h, .int .i64 n, .slice kp key.length kc, .int .i64 seq, .bool gone, .slice vp val.length vc, .slice tp to.length tc] 36) = W1 := ⟨_, rfl⟩
  have b1 : Hid (Below w.heap.size w W1) := by rw [← hW1]; exact (Below.refl _ _).alloc (Nat.le_refl _) _
  have g1 : Hid (W1.heap[w.heap.size]? = some (.cells #[.int .i64 what, .int .i64 h, .int .i64 n, .slice kp key.length kc, .int .i64 seq, .bool gone, .slice vp val.length vc, .slice tp to.length tc] 36)) := by rw [← hW1]; exact heap_alloc_new w _
  have CF : Hid (∀ w', Below W1.heap.size W1 w' → w'.cell? ⟨w.heap.size, 0, none⟩ = some (.int .i64 what) ∧ w'.cell? ⟨w.heap.size, 1, none⟩ = some (.int .i64 h) ∧ w'.cell? ⟨w.heap.size, 2, none⟩ = some (.int .i64 n) ∧ w'.cell? ⟨w.heap.size, 3, none⟩ = some (.slice kp key.length kc) ∧ w'.cell? ⟨w.heap.size, 4, none⟩ = some (.int .i64 seq) ∧ w'.cell? ⟨w.heap.size, 5, none⟩ = some (.bool gone) ∧ w'.cell? ⟨w.heap.size, 6, none⟩ = some (.slice vp val.length vc) ∧ w'.cell? ⟨w.heap.size, 7, none⟩ = some (.slice tp to.length tc)) := fun w' hb => ⟨below_cell hb (cell_of_row _ _ _ _ _ _ g1.out), below_cell hb (cell_of_row _ _ _ _ _ _ g1.out), below_cell hb (cell_of_row _ _ _ _ _ _ g1.out), below_cell hb (cell_of_row _ _ _ _ _ _ g1.out), below_cell hb (cell_of_row _ _ _ _ _ _ g1.out), below_cell hb (cell_of_row _ _ _ _ _ _ g1.out), below_cell hb (cell_of_row _ _ _ _ _ _ g1.out), below_cell hb (cell_of_row _ _ _ _ _ _ g1.out)⟩
  obtain ⟨c0, c1, c2, c3, c4, c5, c6, c7⟩ := CF.out W1 (Below.refl _ _)
  have T1 := keep (TW.out.below b1.out)
  have X1 := keep (entKind_ok.below HX.out b1.out)
  have TO1 := keep (HTO.out.below b1.out)
  by_cases h3 : q = 3
  · subst h3
    have G1 := keep (get_any l ns kp kc key n W1 T1.out.one.mem X1.out.1)
    rw [Sk.hit_vers (l := ents ns) T1.out.one.mem.up] at G1
    have G2 : Hid (∀ w', Below W1.heap.size W1 w' → _) := fun w' hb => rget_any w0.heap.size r ys hs kp kc key n w' (T1.out.below hb).two (by omega) (X1.out.1.below hb)
    rw [T1.out.ents] at G1
    obtain ⟨V, hV⟩ : ∃ V, verE (ys.map (·.e)) key n = V := ⟨_, rfl⟩
    rw [hV] at G1 G2
    clear hV
    obtain ⟨vs, hvs⟩ : ∃ vs, V.isSome = vs := ⟨_, rfl⟩
    obtain ⟨vd, hvd⟩ : ∃ vd, V.getD zeroE = vd := ⟨_, rfl⟩
    rw [hvs, hvd] at G1 G2
    clear hvs hvd
    go_enter Try.func8, Try.ntmps8
    go_wp2_with fail
    refine G1.out.mono ?_
    rintro e w2 ⟨y, rfl, hy, hyh, hb2⟩
    have B2 := keep hb2
    have YH := keep hyh
    have HY := keep hy
    obtain ⟨W3, hW3⟩ : ∃ W3, w2.alloc (.cells (entKind.vals y).toArray 34) = W3 := ⟨_, rfl⟩
    have b3 : Hid (Below w2.heap.size w2 W3) := by rw [← hW3]; exact (Below.refl _ _).alloc (Nat.le_refl _) _
    have g3 : Hid (W3.heap[w2.heap.size]? = some (.cells (entKind.vals y).toArray 34)) := by rw [← hW3]; exact heap_alloc_new w2 _
    have B3 := keep (B2.out.trans (b3.out.mono B2.out.size))
    obtain ⟨e0, e1, e2, e3, e4, e5, e6, e7⟩ := CF.out W3 B3.out
    obtain ⟨ykp, ykc, yvp, yvc, ⟨ykey, yseq, ygone, yval⟩⟩ := y
    simp only [entKind] at hW3 g3
    unfold ev
    simp only
    clear hy hyh hb2 hW1
    go_wp2_with fail
    refine (G2.out W3 B3.out).mono ?_
    rintro e w4 ⟨z, rfl, hz, hzo, hb4⟩
    have B4 := keep (B3.out.trans (hb4.mono B3.out.size))
    have b4 := keep hb4
    obtain ⟨W5, hW5⟩ : ∃ W5, w4.alloc (.cells (entKind.vals z).toArray 34) = W5 := ⟨_, rfl⟩
    have b5 : Hid (Below w4.heap.size w4 W5) := by rw [← hW5]; exact (Below.refl _ _).alloc (Nat.le_refl _) _
    have g5 : Hid (W5.heap[w4.heap.size]? = some (.cells (entKind.vals z).toArray 34)) := by rw [← hW5]; exact heap_alloc_new w4 _
    have B5 := keep (B4.out.trans (b5.out.mono B4.out.size))
    have b35 := keep (b4.out.trans (b5.out.mono b4.out.size))
    have SO := keep (sameOne_yes ⟨ykp, ykc, yvp, yvc, ⟨ykey, yseq, ygone, yval⟩⟩ z W5 (entKind_ok.below YH.out (b3.out.trans (b35.out.mono b3.out.size))) (entKind_ok.below hzo.held b5.out) (HY.out.trans hz.symm))
    obtain ⟨zkp, zkc, zvp, zvc, ⟨zkey, zseq, zgone, zval⟩⟩ := z
    simp only [entKind] at hW5 g5
    unfold ev at SO
    simp only at SO
    unfold ev
    simp only
    have m0 : W5.cell? ⟨w2.heap.size, 0, none⟩ = some (.slice ykp ykey.length ykc) := below_cell b35.out (cell_of_row _ _ _ _ _ _ g3.out)
    have m1 : W5.cell? ⟨w2.heap.size, 1, none⟩ = some (.int .i64 yseq) := below_cell b35.out (cell_of_row _ _ _ _ _ _ g3.out)
    have m2 : W5.cell? ⟨w2.heap.size, 2, none⟩ = some (.bool ygone) := below_cell b35.out (cell_of_row _ _ _ _ _ _ g3.out)
    have m3 : W5.cell? ⟨w2.heap.size, 3, none⟩ = some (.slice yvp yval.length yvc) := below_cell b35.out (cell_of_row _ _ _ _ _ _ g3.out)
    have n0 : W5.cell? ⟨w4.heap.size, 0, none⟩ = some (.slice zkp zkey.length zkc) := cell_of_row _ _ _ _ _ _ g5.out
    have n1 : W5.cell? ⟨w4.heap.size, 1, none⟩ = some (.int .i64 zseq) := cell_of_row _ _ _ _ _ _ g5.out
    have n2 : W5.cell? ⟨w4.heap.size, 2, none⟩ = some (.bool zgone) := cell_of_row _ _ _ _ _ _ g5.out
    have n3 : W5.cell? ⟨w4.heap.size, 3, none⟩ = some (.slice zvp zval.length zvc) := cell_of_row _ _ _ _ _ _ g5.out
    clear hz hzo hb4 hW3
    go_wp2_with fail
    refine SO.out.mono ?_
    rintro e w6 ⟨rfl, hb6⟩
    have B6 := keep (B5.out.trans (hb6.mono B5.out.size))
    clear hb6
    go_wp2
    go_ret
    exact ⟨rfl, ns, ys, hs, T1.out.below B6.out, Nat.le_succ _⟩
  by_cases h4 : q = 4
  · subst h4
    have SE := keep (scan_same (l := ys.map (·.e)) T1.out.two.up key to n)
    have SL : Hid ((dscan (ys.map (·.e)) key to n).length ≤ 1000000) := Nat.le_trans (dscan_length _ _ _ _) (by rw [List.length_map]; omega)
    have S1 : Hid (∀ w', Below W1.heap.size W1 w' → Calls Try.prog 13 #[.pointer (some ⟨l, 0, none⟩), .slice kp key.length kc, .slice tp to.length tc, .int .i64 n] w' fun e w'' => ∃ a k zs, e = .returned (.slice a (List.length zs) k) ∧ RSrc entKind w'' a zs.length k zs ∧ zs.map (·.e) = dscan (ys.map (·.e)) key to n ∧ Below W1.heap.size W1 w'') := fun w' hb => by
      refine (scan_mem l ns kp kc key tp tc to n w' (T1.out.below hb).one.mem (by omega) (X1.out.1.below hb) (TO1.out.below hb)).mono ?_
      rintro e w'' ⟨v, zs, rfl, h1, h2, h3⟩
      obtain ⟨a, k, rfl, h4, _⟩ := RSrc.own entKind_ok h1.row (fun z hz => (h1.each z hz).held)
      refine ⟨a, k, zs, rfl, h4, ?_, hb.trans (h3.mono hb.size)⟩
      rw [h2, SE.out, T1.out.ents]
    have S2 : Hid (∀ w', Below W1.heap.size W1 w' → Calls Try.prog 21 #[.pointer (some ⟨r, 0, none⟩), .slice kp key.length kc, .slice tp to.length tc, .int .i64 n] w' fun e w'' => ∃ a k zs, e = .returned (.slice a (List.length zs) k) ∧ RSrc entKind w'' a zs.length k zs ∧ zs.map (·.e) = dscan (ys.map (·.e)) key to n ∧ Below W1.heap.size W1 w'' ∧ Below w'.heap.size w' w'') := fun w' hb => by
      refine (rscanM_any w0.heap.size r ys hs kp kc key tp tc to n w' (T1.out.below hb).two (by omega) (X1.out.1.below hb) (TO1.out.below hb) hf1 hf3).mono ?_
      rintro e w'' ⟨v, zs, rfl, h1, h2, h3⟩
      obtain ⟨a, k, rfl, h4, _⟩ := RSrc.own entKind_ok h1.row (fun z hz => (h1.each z hz).held)
      exact ⟨a, k, zs, rfl, h4, h2, hb.trans (h3.mono hb.size), h3⟩
    go_enter Try.func8, Try.ntmps8
    go_wp2_with fail
    refine wp_region_held_drew (S := fun w' => Below W1.heap.size W1 w') (by kernel_rfl) ((Below.refl _ _).drew) (fun hHeld => ?_)
    refine takeH (i := 0) 46 (v := .pointer (some ⟨l, 0, none⟩)) rfl rfl (by kernel_rfl) (by kernel_rfl) (by kernel_rfl) (fun _ _ _ h => h) (Or.inl ⟨by rfl, ?_⟩) (by assumption) ?_
    · intro w' hSw'
      go_simp
    simp only [Act.put, List.setIfInBounds_toArray, List.set_cons_zero, List.set_cons_succ]
    refine takeH (i := 1) 47 (v := .pointer (some ⟨w.heap.size, 3, none⟩)) rfl rfl (by kernel_rfl) (by kernel_rfl) (by kernel_rfl) (fun _ _ _ h => h) (Or.inl ⟨by rfl, ?_⟩) (by assumption) ?_
    · intro w' hSw'
      go_simp
    simp only [Act.put, List.setIfInBounds_toArray, List.set_cons_zero, List.set_cons_succ]
    refine takeH (i := 2) 48 (v := .pointer (some ⟨w.heap.size, 3, none⟩)) rfl rfl (by kernel_rfl) (by kernel_rfl) (by kernel_rfl) (fun _ _ _ h => h) (Or.inl ⟨by rfl, ?_⟩) (by assumption) ?_
    · intro w' hSw'
      go_simp
    simp only [Act.put, List.setIfInBounds_toArray, List.set_cons_zero, List.set_cons_succ]
    refine takeH (i := 3) 49 (v := .slice kp key.length kc) rfl rfl (by kernel_rfl) (by kernel_rfl) (by kernel_rfl) (fun _ _ _ h => h) (Or.inl ⟨by rfl, ?_⟩) (by assumption) ?_
    · intro w' hSw'
      obtain ⟨d0, d1, d2, d3, d4, d5, d6, d7⟩ := CF.out w' hSw'
      go_simp
    simp only [Act.put, List.setIfInBounds_toArray, List.set_cons_zero, List.set_cons_succ]
    refine takeH (i := 4) 50 (v := .pointer (some ⟨w.heap.size, 7, none⟩)) rfl rfl (by kernel_rfl) (by kernel_rfl) (by kernel_rfl) (fun _ _ _ h => h) (Or.inl ⟨by rfl, ?_⟩) (by assumption) ?_
    · intro w' hSw'
      go_simp
    simp only [Act.put, List.setIfInBounds_toArray, List.set_cons_zero, List.set_cons_succ]
    refine takeH (i := 5) 51 (v := .slice tp to.length tc) rfl rfl (by kernel_rfl) (by kernel_rfl) (by kernel_rfl) (fun _ _ _ h => h) (Or.inl ⟨by rfl, ?_⟩) (by assumption) ?_
    · intro w' hSw'
      obtain ⟨d0, d1, d2, d3, d4, d5, d6, d7⟩ := CF.out w' hSw'
      go_simp
    simp only [Act.put, List.setIfInBounds_toArray, List.set_cons_zero, List.set_cons_succ]
    refine takeH (i := 6) 52 (v := .pointer (some ⟨w.heap.size, 2, none⟩)) rfl rfl (by kernel_rfl) (by kernel_rfl) (by kernel_rfl) (fun _ _ _ h => h) (Or.inl ⟨by rfl, ?_⟩) (by assumption) ?_
    · intro w' hSw'
      go_simp
    simp only [Act.put, List.setIfInBounds_toArray, List.set_cons_zero, List.set_cons_succ]
    refine takeH (i := 7) 53 (v := .int .i64 n) rfl rfl (by kernel_rfl) (by kernel_rfl) (by kernel_rfl) (fun _ _ _ h => h) (Or.inl ⟨by rfl, ?_⟩) (by assumption) ?_
    · intro w' hSw'
      obtain ⟨d0, d1, d2, d3, d4, d5, d6, d7⟩ := CF.out w' hSw'
      go_simp
    simp only [Act.put, List.setIfInBounds_toArray, List.set_cons_zero, List.set_cons_succ]
    refine takeH (i := 9) 55 (v := .pointer (some ⟨r, 0, none⟩)) rfl rfl (by kernel_rfl) (by kernel_rfl) (by kernel_rfl) (fun _ _ _ h => h) (Or.inl ⟨by rfl, ?_⟩) (by assumption) ?_
    · intro w' hSw'
      go_simp
    simp only [Act.put, List.setIfInBounds_toArray, List.set_cons_zero, List.set_cons_succ]
    refine takeH (i := 10) 56 (v := .pointer (some ⟨w.heap.size, 3, none⟩)) rfl rfl (by kernel_rfl) (by kernel_rfl) (by kernel_rfl) (fun _ _ _ h => h) (Or.inl ⟨by rfl, ?_⟩) (by assumption) ?_
    · intro w' hSw'
      go_simp
    simp only [Act.put, List.setIfInBounds_toArray, List.set_cons_zero, List.set_cons_succ]
    refine takeH (i := 11) 57 (v := .pointer (some ⟨w.heap.size, 3, none⟩)) rfl rfl (by kernel_rfl) (by kernel_rfl) (by kernel_rfl) (fun _ _ _ h => h) (Or.inl ⟨by rfl, ?_⟩) (by assumption) ?_
    · intro w' hSw'
      go_simp
    simp only [Act.put, List.setIfInBounds_toArray, List.set_cons_zero, List.set_cons_succ]
    refine takeH (i := 12) 58 (v := .slice kp key.length kc) rfl rfl (by kernel_rfl) (by kernel_rfl) (by kernel_rfl) (fun _ _ _ h => h) (Or.inl ⟨by rfl, ?_⟩) (by assumption) ?_
    · intro w' hSw'
      obtain ⟨d0, d1, d2, d3, d4, d5, d6, d7⟩ := CF.out w' hSw'
      go_simp
    simp only [Act.put, List.setIfInBounds_toArray, List.set_cons_zero, List.set_cons_succ]
    refine takeH (i := 13) 59 (v := .pointer (some ⟨w.heap.size, 7, none⟩)) rfl rfl (by kernel_rfl) (by kernel_rfl) (by kernel_rfl) (fun _ _ _ h => h) (Or.inl ⟨by rfl, ?_⟩) (by assumption) ?_
    · intro w' hSw'
      go_simp
    simp only [Act.put, List.setIfInBounds_toArray, List.set_cons_zero, List.set_cons_succ]
    refine takeH (i := 14) 60 (v := .slice tp to.length tc) rfl rfl (by kernel_rfl) (by kernel_rfl) (by kernel_rfl) (fun _ _ _ h => h) (Or.inl ⟨by rfl, ?_⟩) (by assumption) ?_
    · intro w' hSw'
      obtain ⟨d0, d1, d2, d3, d4, d5, d6, d7⟩ := CF.out w' hSw'
      go_simp
    simp only [Act.put, List.setIfInBounds_toArray, List.set_cons_zero, List.set_cons_succ]
    refine takeH (i := 15) 61 (v := .pointer (some ⟨w.heap.size, 2, none⟩)) rfl rfl (by kernel_rfl) (by kernel_rfl) (by kernel_rfl) (fun _ _ _ h => h) (Or.inl ⟨by rfl, ?_⟩) (by assumption) ?_
    · intro w' hSw'
      go_simp
    simp only [Act.put, List.setIfInBounds_toArray, List.set_cons_zero, List.set_cons_succ]
    refine takeH (i := 16) 62 (v := .int .i64 n) rfl rfl (by kernel_rfl) (by kernel_rfl) (by kernel_rfl) (fun _ _ _ h => h) (Or.inl ⟨by rfl, ?_⟩) (by assumption) ?_
    · intro w' hSw'
      obtain ⟨d0, d1, d2, d3, d4, d5, d6, d7⟩ := CF.out w' hSw'
      go_simp
    simp only [Act.put, List.setIfInBounds_toArray, List.set_cons_zero, List.set_cons_succ]
    refine wpAnyH_ready (rs := [8]) (by kernel_rfl) (by simp) ?_
    refine AllReadyH.cons rfl (fun K hK => ?_) AllReadyH.nil
    go_simp
    refine (S1.out _ (Below.refl _ _).drew).mono ?_
    rintro e w2 ⟨a2, k2, zs, rfl, hr2, he2, hb2⟩
    have R2 := keep hr2
    have E2 := keep he2
    have B2 := keep hb2
    clear hr2 he2 hb2
    go_wp2_with fail
    refine hK.out _ _ (B2.out) (fun hHeld2 => ?_)
    clear hK K
    refine wpAnyH_ready (rs := [17]) (by kernel_rfl) (by simp) ?_
    refine AllReadyH.cons rfl (fun K hK => ?_) AllReadyH.nil
    go_simp
    refine (S2.out _ B2.out).mono ?_
    rintro e w3 ⟨a3, k3, us, rfl, hr3, he3, hb3, hd3⟩
    have E3 := keep he3
    have R3 := keep hr3
    have B3 := keep hb3
    have R23 := keep (R2.out.below entKind_ok hd3)
    clear hr3 he3 hb3 hd3
    have hl23 : us.length = zs.length := by
      have h1 := congrArg List.length (E3.out.trans E2.out.symm)
      rwa [List.length_map, List.length_map] at h1
    rw [hl23] at R3 ⊢
    have hz : zs.length ≤ 1000000 := by
      have h1 := congrArg List.length E2.out
      rw [List.length_map] at h1
      rw [h1]
      exact SL.out
    have SY := keep (fun w' (hb : Below w3.heap.size w3 w') => same_yes a2 zs.length k2 zs a3 k3 us w' (by omega) (R23.out.below entKind_ok hb) (R3.out.below entKind_ok hb) (E2.out.trans E3.out.symm))
    clear hl23 hz
    go_wp2_with fail
    refine hK.out _ _ (B3.out) (fun hHeld3 => ?_)
    clear hK K
    refine wpAnyH_ready (rs := [18]) (by kernel_rfl) (by simp) ?_
    refine AllReadyH.cons rfl (fun K hK => ?_) AllReadyH.nil
    go_simp
    refine (SY.out _ (Below.refl _ _)).mono ?_
    rintro e w4 ⟨rfl, hb4⟩
    have B4 := keep (B3.out.trans (hb4.mono B3.out.size))
    clear hb4
    go_wp2_with fail
    refine hK.out _ _ (B4.out) (fun hHeld4 => ?_)
    clear hK K
    refine takeH (i := 19) 6 (v := .bool true) rfl rfl (by kernel_rfl) (by kernel_rfl) (by kernel_rfl) (fun _ _ _ h => h) (Or.inl ⟨by rfl, ?_⟩) (by assumption) ?_
    · intro w' hSw'
      go_simp
    simp only [Act.put, List.setIfInBounds_toArray, List.set_cons_zero, List.set_cons_succ]
    refine wpAnyH_done (by kernel_rfl) ?_ _
    go_wp2
    go_ret
    exact ⟨rfl, ns, ys, hs, T1.out.below B4.out, Nat.le_succ _⟩
  by_cases h5 : q = 5
  · subst h5
    have SL : Hid ((lev (rts ys hs) n).length ≤ 1000000) := Nat.le_trans (lev_length _ _) (by rw [← T1.out.same, hts_length]; omega)
    have S1 : Hid (∀ w', Below W1.heap.size W1 w' → Calls Try.prog 22 #[.pointer (some ⟨l, 0, none⟩), .int .i64 n] w' fun e w'' => ∃ a k zs, e = .returned (.slice a (List.length zs) k) ∧ RSrc entKind w'' a zs.length k zs ∧ zs.map (·.e) = lev (rts ys hs) n ∧ Below W1.heap.size W1 w'') := fun w' hb => by
      by_cases hn : n ≤ 12
      · refine (level_mem l ns n (max n 1 - 1).toNat w' (T1.out.below hb).one.mem hn (by omega) (by omega)).mono ?_
        rintro e w'' ⟨v, zs, rfl, h1, h2, h3⟩
        obtain ⟨a, k, rfl, h4, _⟩ := RSrc.own entKind_ok h1.row (fun z hz => (h1.each z hz).held)
        refine ⟨a, k, zs, rfl, h4, ?_, hb.trans (h3.mono hb.size)⟩
        rw [h2, lev_same T1.out.one.mem.tall (z := n) (by omega), ← T1.out.same]
        rfl
      · refine (level_high l n w' (by omega)).mono ?_
        rintro e w'' ⟨rfl, rfl⟩
        refine ⟨none, 0, [], rfl, RSrc.empty (fun _ => rfl), ?_, hb⟩
        rw [lev_none (fun p hp => ?_)]
        · rfl
        · rw [← T1.out.same] at hp
          have := T1.out.low p hp
          omega
    have S2 : Hid (∀ w', Below W1.heap.size W1 w' → Calls Try.prog 23 #[.pointer (some ⟨r, 0, none⟩), .int .i64 n] w' fun e w'' => ∃ a k zs, e = .returned (.slice a (List.length zs) k) ∧ RSrc entKind w'' a zs.length k zs ∧ zs.map (·.e) = lev (rts ys hs) n ∧ Below W1.heap.size W1 w'' ∧ Below w'.heap.size w' w'') := fun w' hb => by
      refine (rlevel_any w0.heap.size r ys hs n w' (T1.out.below hb).two (by omega)).mono ?_
      rintro e w'' ⟨v, zs, rfl, h1, h2, h3⟩
      obtain ⟨a, k, rfl, h4, _⟩ := RSrc.own entKind_ok h1.row (fun z hz => (h1.each z hz).held)
      exact ⟨a, k, zs, rfl, h4, h2, hb.trans (h3.mono hb.size), h3⟩
    go_enter Try.func8, Try.ntmps8
    go_wp2_with fail
    refine wp_region_held_drew (S := fun w' => Below W1.heap.size W1 w') (by kernel_rfl) ((Below.refl _ _).drew) (fun hHeld => ?_)
    refine takeH (i := 0) 67 (v := .pointer (some ⟨l, 0, none⟩)) rfl rfl (by kernel_rfl) (by kernel_rfl) (by kernel_rfl) (fun _ _ _ h => h) (Or.inl ⟨by rfl, ?_⟩) (by assumption) ?_
    · intro w' hSw'
      go_simp
    simp only [Act.put, List.setIfInBounds_toArray, List.set_cons_zero, List.set_cons_succ]
    refine takeH (i := 1) 68 (v := .pointer (some ⟨w.heap.size, 2, none⟩)) rfl rfl (by kernel_rfl) (by kernel_rfl) (by kernel_rfl) (fun _ _ _ h => h) (Or.inl ⟨by rfl, ?_⟩) (by assumption) ?_
    · intro w' hSw'
      go_simp
    simp only [Act.put, List.setIfInBounds_toArray, List.set_cons_zero, List.set_cons_succ]
    refine takeH (i := 2) 69 (v := .int .i64 n) rfl rfl (by kernel_rfl) (by kernel_rfl) (by kernel_rfl) (fun _ _ _ h => h) (Or.inl ⟨by rfl, ?_⟩) (by assumption) ?_
    · intro w' hSw'
      obtain ⟨d0, d1, d2, d3, d4, d5, d6, d7⟩ := CF.out w' hSw'
      go_simp
    simp only [Act.put, List.setIfInBounds_toArray, List.set_cons_zero, List.set_cons_succ]
    refine takeH (i := 4) 71 (v := .pointer (some ⟨r, 0, none⟩)) rfl rfl (by kernel_rfl) (by kernel_rfl) (by kernel_rfl) (fun _ _ _ h => h) (Or.inl ⟨by rfl, ?_⟩) (by assumption) ?_
    · intro w' hSw'
      go_simp
    simp only [Act.put, List.setIfInBounds_toArray, List.set_cons_zero, List.set_cons_succ]
    refine takeH (i := 5) 72 (v := .pointer (some ⟨w.heap.size, 2, none⟩)) rfl rfl (by kernel_rfl) (by kernel_rfl) (by kernel_rfl) (fun _ _ _ h => h) (Or.inl ⟨by rfl, ?_⟩) (by assumption) ?_
    · intro w' hSw'
      go_simp
    simp only [Act.put, List.setIfInBounds_toArray, List.set_cons_zero, List.set_cons_succ]
    refine takeH (i := 6) 73 (v := .int .i64 n) rfl rfl (by kernel_rfl) (by kernel_rfl) (by kernel_rfl) (fun _ _ _ h => h) (Or.inl ⟨by rfl, ?_⟩) (by assumption) ?_
    · intro w' hSw'
      obtain ⟨d0, d1, d2, d3, d4, d5, d6, d7⟩ := CF.out w' hSw'
      go_simp
    simp only [Act.put, List.setIfInBounds_toArray, List.set_cons_zero, List.set_cons_succ]
    refine wpAnyH_ready (rs := [3]) (by kernel_rfl) (by simp) ?_
    refine AllReadyH.cons rfl (fun K hK => ?_) AllReadyH.nil
    go_simp
    refine (S1.out _ (Below.refl _ _).drew).mono ?_
    rintro e w2 ⟨a2, k2, zs, rfl, hr2, he2, hb2⟩
    have R2 := keep hr2
    have E2 := keep he2
    have B2 := keep hb2
    clear hr2 he2 hb2
    go_wp2_with fail
    refine hK.out _ _ (B2.out) (fun hHeld2 => ?_)
    clear hK K
    refine wpAnyH_ready (rs := [7]) (by kernel_rfl) (by simp) ?_
    refine AllReadyH.cons rfl (fun K hK => ?_) AllReadyH.nil
    go_simp
    refine (S2.out _ B2.out).mono ?_
    rintro e w3 ⟨a3, k3, us, rfl, hr3, he3, hb3, hd3⟩
    have E3 := keep he3
    have R3 := keep hr3
    have B3 := keep hb3
    have R23 := keep (R2.out.below entKind_ok hd3)
    clear hr3 he3 hb3 hd3
    have hl23 : us.length = zs.length := by
      have h1 := congrArg List.length (E3.out.trans E2.out.symm)
      rwa [List.length_map, List.length_map] at h1
    rw [hl23] at R3 ⊢
    have hz : zs.length ≤ 1000000 := by
      have h1 := congrArg List.length E2.out
      rw [List.length_map] at h1
      rw [h1]
      exact SL.out
    have SY := keep (fun w' (hb : Below w3.heap.size w3 w') => same_yes a2 zs.length k2 zs a3 k3 us w' (by omega) (R23.out.below entKind_ok hb) (R3.out.below entKind_ok hb) (E2.out.trans E3.out.symm))
    clear hl23 hz
    go_wp2_with fail
    refine hK.out _ _ (B3.out) (fun hHeld3 => ?_)
    clear hK K
    refine wpAnyH_ready (rs := [8]) (by kernel_rfl) (by simp) ?_
    refine AllReadyH.cons rfl (fun K hK => ?_) AllReadyH.nil
    go_simp
    refine (SY.out _ (Below.refl _ _)).mono ?_
    rintro e w4 ⟨rfl, hb4⟩
    have B4 := keep (B3.out.trans (hb4.mono B3.out.size))
    clear hb4
    go_wp2_with fail
    refine hK.out _ _ (B4.out) (fun hHeld4 => ?_)
    clear hK K
    refine takeH (i := 9) 6 (v := .bool true) rfl rfl (by kernel_rfl) (by kernel_rfl) (by kernel_rfl) (fun _ _ _ h => h) (Or.inl ⟨by rfl, ?_⟩) (by assumption) ?_
    · intro w' hSw'
      go_simp
    simp only [Act.put, List.setIfInBounds_toArray, List.set_cons_zero, List.set_cons_succ]
    refine wpAnyH_done (by kernel_rfl) ?_ _
    go_wp2
    go_ret
    exact ⟨rfl, ns, ys, hs, T1.out.below B4.out, Nat.le_succ _⟩
  · have q3 : ((q : Int) == 3) = false := by simp; omega
    have q4 : ((q : Int) == 4) = false := by simp; omega
    have q5 : ((q : Int) == 5) = false := by simp; omega
    have TD := keep (T1.out.below ((Below.refl W1.heap.size W1).drew))
    have GL : Hid (w.heap.size < W1.drew.heap.size) := (Array.getElem?_eq_some_iff.1 g1.out).1
    have NF : Hid (¬ foot l ns w.heap.size) := fun e => by
      obtain ⟨c, t, h1, _, _, _, _, h6⟩ := T1.out.one.tag4 e
      rw [g1.out] at h1
      simp only [Option.some.injEq, Obj.cells.injEq] at h1
      exact h6 h1.2.1.symm
    have SP : Hid ((rts ys hs).map Prod.fst = (hts ns).map Prod.fst) := by show _ = _; rw [T1.out.same]
    have P1 := keep (put_pair w0.heap.size l ns ⟨kp, kc, vp, vc, ⟨key, seq, gone, val⟩⟩ h W1.drew TD.out.one TD.out.bel.size (by omega) (entKind_ok.below HX0.out TD.out.bel) (by simp only; omega) (by simp only; omega))
    unfold ev at P1
    simp only at P1
    obtain ⟨ft, hft⟩ : ∃ ft, (hts ns).map Prod.fst = ft := ⟨_, rfl⟩
    rw [hft] at P1 SP
    clear hft
    go_enter Try.func8, Try.ntmps8
    go_wp2_with fail
    refine wp_region_held_drew (S := fun w' => w'.heap[w.heap.size]? = some (.cells #[.int .i64 what, .int .i64 h, .int .i64 n, .slice kp key.length kc, .int .i64 seq, .bool gone, .slice vp val.length vc, .slice tp to.length tc] 36)) (by kernel_rfl) (g1.out) (fun hHeld => ?_)
    refine takeH (i := 0) 76 (v := .pointer (some ⟨l, 0, none⟩)) rfl rfl (by kernel_rfl) (by kernel_rfl) (by kernel_rfl) (fun _ _ _ h => h) (Or.inl ⟨by rfl, ?_⟩) (by assumption) ?_
    · intro w' hSw'
      go_simp
    simp only [Act.put, List.setIfInBounds_toArray, List.set_cons_zero, List.set_cons_succ]
    refine takeH (i := 1) 77 (v := .pointer (some ⟨w.heap.size, 3, none⟩)) rfl rfl (by kernel_rfl) (by kernel_rfl) (by kernel_rfl) (fun _ _ _ h => h) (Or.inl ⟨by rfl, ?_⟩) (by assumption) ?_
    · intro w' hSw'
      go_simp
    simp only [Act.put, List.setIfInBounds_toArray, List.set_cons_zero, List.set_cons_succ]
    refine takeH (i := 2) 78 (v := .agg #[.slice kp key.length kc, .int .i64 seq, .bool gone, .slice vp val.length vc]) rfl rfl (by kernel_rfl) (by kernel_rfl) (by kernel_rfl) (fun _ _ _ h => h) (Or.inl ⟨by rfl, ?_⟩) (by assumption) ?_
    · intro w' hSw'
      have d1 : w'.cell? ⟨w.heap.size, 1, none⟩ = some (.int .i64 h) := cell_of_row _ _ _ _ _ _ hSw'
      have d3 : w'.cell? ⟨w.heap.size, 3, none⟩ = some (.slice kp key.length kc) := cell_of_row _ _ _ _ _ _ hSw'
      have d4 : w'.cell? ⟨w.heap.size, 4, none⟩ = some (.int .i64 seq) := cell_of_row _ _ _ _ _ _ hSw'
      have d5 : w'.cell? ⟨w.heap.size, 5, none⟩ = some (.bool gone) := cell_of_row _ _ _ _ _ _ hSw'
      have d6 : w'.cell? ⟨w.heap.size, 6, none⟩ = some (.slice vp val.length vc) := cell_of_row _ _ _ _ _ _ hSw'
      go_simp
    simp only [Act.put, List.setIfInBounds_toArray, List.set_cons_zero, List.set_cons_succ]
    refine takeH (i := 3) 79 (v := .pointer (some ⟨w.heap.size, 1, none⟩)) rfl rfl (by kernel_rfl) (by kernel_rfl) (by kernel_rfl) (fun _ _ _ h => h) (Or.inl ⟨by rfl, ?_⟩) (by assumption) ?_
    · intro w' hSw'
      go_simp
    simp only [Act.put, List.setIfInBounds_toArray, List.set_cons_zero, List.set_cons_succ]
    refine takeH (i := 4) 80 (v := .int .i64 h) rfl rfl (by kernel_rfl) (by kernel_rfl) (by kernel_rfl) (fun _ _ _ h => h) (Or.inl ⟨by rfl, ?_⟩) (by assumption) ?_
    · intro w' hSw'
      have d1 : w'.cell? ⟨w.heap.size, 1, none⟩ = some (.int .i64 h) := cell_of_row _ _ _ _ _ _ hSw'
      have d3 : w'.cell? ⟨w.heap.size, 3, none⟩ = some (.slice kp key.length kc) := cell_of_row _ _ _ _ _ _ hSw'
      have d4 : w'.cell? ⟨w.heap.size, 4, none⟩ = some (.int .i64 seq) := cell_of_row _ _ _ _ _ _ hSw'
      have d5 : w'.cell? ⟨w.heap.size, 5, none⟩ = some (.bool gone) := cell_of_row _ _ _ _ _ _ hSw'
      have d6 : w'.cell? ⟨w.heap.size, 6, none⟩ = some (.slice vp val.length vc) := cell_of_row _ _ _ _ _ _ hSw'
      go_simp
    simp only [Act.put, List.setIfInBounds_toArray, List.set_cons_zero, List.set_cons_succ]
    refine takeH (i := 6) 82 (v := .pointer (some ⟨r, 0, none⟩)) rfl rfl (by kernel_rfl) (by kernel_rfl) (by kernel_rfl) (fun _ _ _ h => h) (Or.inl ⟨by rfl, ?_⟩) (by assumption) ?_
    · intro w' hSw'
      go_simp
    simp only [Act.put, List.setIfInBounds_toArray, List.set_cons_zero, List.set_cons_succ]
    refine takeH (i := 7) 83 (v := .pointer (some ⟨w.heap.size, 3, none⟩)) rfl rfl (by kernel_rfl) (by kernel_rfl) (by kernel_rfl) (fun _ _ _ h => h) (Or.inl ⟨by rfl, ?_⟩) (by assumption) ?_
    · intro w' hSw'
      go_simp
    simp only [Act.put, List.setIfInBounds_toArray, List.set_cons_zero, List.set_cons_succ]
    refine takeH (i := 8) 84 (v := .agg #[.slice kp key.length kc, .int .i64 seq, .bool gone, .slice vp val.length vc]) rfl rfl (by kernel_rfl) (by kernel_rfl) (by kernel_rfl) (fun _ _ _ h => h) (Or.inl ⟨by rfl, ?_⟩) (by assumption) ?_
    · intro w' hSw'
      have d1 : w'.cell? ⟨w.heap.size, 1, none⟩ = some (.int .i64 h) := cell_of_row _ _ _ _ _ _ hSw'
      have d3 : w'.cell? ⟨w.heap.size, 3, none⟩ = some (.slice kp key.length kc) := cell_of_row _ _ _ _ _ _ hSw'
      have d4 : w'.cell? ⟨w.heap.size, 4, none⟩ = some (.int .i64 seq) := cell_of_row _ _ _ _ _ _ hSw'
      have d5 : w'.cell? ⟨w.heap.size, 5, none⟩ = some (.bool gone) := cell_of_row _ _ _ _ _ _ hSw'
      have d6 : w'.cell? ⟨w.heap.size, 6, none⟩ = some (.slice vp val.length vc) := cell_of_row _ _ _ _ _ _ hSw'
      go_simp
    simp only [Act.put, List.setIfInBounds_toArray, List.set_cons_zero, List.set_cons_succ]
    refine takeH (i := 9) 85 (v := .pointer (some ⟨w.heap.size, 1, none⟩)) rfl rfl (by kernel_rfl) (by kernel_rfl) (by kernel_rfl) (fun _ _ _ h => h) (Or.inl ⟨by rfl, ?_⟩) (by assumption) ?_
    · intro w' hSw'
      go_simp
    simp only [Act.put, List.setIfInBounds_toArray, List.set_cons_zero, List.set_cons_succ]
    refine takeH (i := 10) 86 (v := .int .i64 h) rfl rfl (by kernel_rfl) (by kernel_rfl) (by kernel_rfl) (fun _ _ _ h => h) (Or.inl ⟨by rfl, ?_⟩) (by assumption) ?_
    · intro w' hSw'
      have d1 : w'.cell? ⟨w.heap.size, 1, none⟩ = some (.int .i64 h) := cell_of_row _ _ _ _ _ _ hSw'
      have d3 : w'.cell? ⟨w.heap.size, 3, none⟩ = some (.slice kp key.length kc) := cell_of_row _ _ _ _ _ _ hSw'
      have d4 : w'.cell? ⟨w.heap.size, 4, none⟩ = some (.int .i64 seq) := cell_of_row _ _ _ _ _ _ hSw'
      have d5 : w'.cell? ⟨w.heap.size, 5, none⟩ = some (.bool gone) := cell_of_row _ _ _ _ _ _ hSw'
      have d6 : w'.cell? ⟨w.heap.size, 6, none⟩ = some (.slice vp val.length vc) := cell_of_row _ _ _ _ _ _ hSw'
      go_simp
    simp only [Act.put, List.setIfInBounds_toArray, List.set_cons_zero, List.set_cons_succ]
    refine wpAnyH_ready (rs := [5]) (by kernel_rfl) (by simp) ?_
    refine AllReadyH.cons rfl (fun K hK => ?_) AllReadyH.nil
    go_simp
    refine (P1.out).mono ?_
    rintro e w2 ⟨rfl, ns2, hm2, hh2, hk2⟩
    have M2 := keep hm2
    have H2 := keep hh2
    have K2 := keep hk2
    clear hm2 hh2 hk2
    have D1 := keep (TD.out.putL K2.out)
    have B2 := keep (TD.out.bel.trans (K2.out.below TD.out.bel.size (fun g hg => TD.out.one.far g hg)))
    have G2 : Hid (w2.heap[w.heap.size]? = some (.cells #[.int .i64 what, .int .i64 h, .int .i64 n, .slice kp key.length kc, .int .i64 seq, .bool gone, .slice vp val.length vc, .slice tp to.length tc] 36)) := (K2.out.block w.heap.size GL.out NF.out).trans g1.out
    have RP := keep (rput_pair w0.heap.size r ys hs ⟨kp, kc, vp, vc, ⟨key, seq, gone, val⟩⟩ h w2 D1.out B2.out.size (by omega) (entKind_ok.below HX0.out B2.out) (by simp only; omega) (by simp only; omega))
    unfold ev at RP
    simp only at RP
    rw [SP.out] at RP
    go_wp2_with fail
    refine hK.out _ _ (G2.out) (fun hHeld2 => ?_)
    clear hK K
    refine wpAnyH_ready (rs := [11]) (by kernel_rfl) (by simp) ?_
    refine AllReadyH.cons rfl (fun K hK => ?_) AllReadyH.nil
    go_simp
    refine (RP.out).mono ?_
    rintro e w3 ⟨rfl, ys3, hs3, hm3, hh3, hk3⟩
    have M3 := keep hm3
    have H3 := keep hh3
    have K3 := keep hk3
    clear hm3 hh3 hk3
    have TR : Hid (∃ c, w2.heap[r]? = some (.cells c 31 (0, 0))) := by
      obtain ⟨vL, vH, h1, _⟩ := D1.out.row
      exact ⟨_, h1⟩
    have G3 : Hid (w3.heap[w.heap.size]? = some (.cells #[.int .i64 what, .int .i64 h, .int .i64 n, .slice kp key.length kc, .int .i64 seq, .bool gone, .slice vp val.length vc, .slice tp to.length tc] 36)) := by
      refine (K3.out.block w.heap.size (Array.getElem?_eq_some_iff.1 G2.out).1 (fun e => ?_)).trans G2.out
      obtain ⟨c, hc⟩ := TR.out
      rw [← e, G2.out] at hc
      simp at hc
    go_wp2_with fail
    refine hK.out _ _ (G3.out) (fun hHeld3 => ?_)
    clear hK K
    refine takeH (i := 12) 88 (v := .bool true) rfl rfl (by kernel_rfl) (by kernel_rfl) (by kernel_rfl) (fun _ _ _ h => h) (Or.inl ⟨by rfl, ?_⟩) (by assumption) ?_
    · intro w' hSw'
      go_simp
    simp only [Act.put, List.setIfInBounds_toArray, List.set_cons_zero, List.set_cons_succ]
    refine takeH (i := 13) 6 (v := .bool true) rfl rfl (by kernel_rfl) (by kernel_rfl) (by kernel_rfl) (fun _ _ _ h => h) (Or.inl ⟨by rfl, ?_⟩) (by assumption) ?_
    · intro w' hSw'
      go_simp
    simp only [Act.put, List.setIfInBounds_toArray, List.set_cons_zero, List.set_cons_succ]
    refine wpAnyH_done (by kernel_rfl) ?_ _
    have TW3 : Hid (Twin w0 l ns2 r ys3 hs3 w3) := ⟨putR_one M2.out TR.out K3.out, M3.out, by rw [H2.out, H3.out, T1.out.same], by rw [H2.out]; exact putP_low T1.out.low, B2.out.trans (K3.out.below B2.out.size (fun g hg => by rw [hg]; exact D1.out.ge))⟩
    have L3 : Hid (ns2.length ≤ ns.length + 1) := by
      show _ ≤ _
      rw [← hts_length ns2, H2.out, ← hts_length ns]
      exact putP_length _ _ _
    go_wp2
    go_ret
    exact ⟨rfl, ns2, ys3, hs3, TW3.out, L3.out⟩
end Go.Proofs.Ythhnnfnfggandaa
