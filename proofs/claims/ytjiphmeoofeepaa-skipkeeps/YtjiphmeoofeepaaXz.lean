/- SkipKeeps' walk. -/
import Derived.Test.YtjiphmeoofeepaaJoinXz0
import Derived.Test.YtjiphmeoofeepaaVl
import Derived.Test.YtjiphmeoofeepaaVj
import Derived.Test.YtjiphmeoofeepaaVn
import Derived.Test.YtjiphmeoofeepaaXa
namespace Go.Proofs.Ytjiphmeoofeepaa
open Go.RowKit
open Sk (Ent)

set_option maxHeartbeats 8000000 in
set_option maxRecDepth 100000 in
theorem keeps_walk (ao : Option Addr) (m c : Nat) (es : List OpS) (w : World) (hs : RSrc opsKind w ao m c es) (hfit : ∀ o ∈ es, o.fits) :
    Calls Try.prog 3 #[.slice ao m c] w fun e w' => e = .returned (.bool true) ∧ Below w.heap.size w w' := by
  have H1 := keep hs
  have HF := keep hfit
  have hm := hs.len
  have AW := keep (awake_any w)
  clear hs hfit
  go_enter Try.func3, Try.ntmps3
  go_wp2_with fail
  refine AW.out.mono ?_
  rintro e wa ⟨rfl, hb1⟩
  have B1 := keep hb1
  clear hb1 AW
  go_wp2_with fail
  refine (new_raw wa).mono ?_
  rintro e wb ⟨rfl, hw1⟩
  have I0 : Hid (KpI w wa.heap.size [] es 0 wb) := ⟨by rw [hw1]; exact new_lmem wa B1.out.size, rfl, Nat.le_refl _, by rw [hw1]; exact B1.out.alloc B1.out.size _⟩
  obtain ⟨l, hl⟩ : ∃ l, wa.heap.size = l := ⟨_, rfl⟩
  rw [hl] at I0 ⊢
  clear hw1 hl B1
  go_wp2
  go_loopw [5] (fun i wr => ∃ (k : Nat) (ns : List Nd), k ≤ m ∧ k ≤ 60 ∧ i = .int .i64 (k : Int) ∧ Hid (KpI w l ns es k wr)) (fun i _ => m - (intOf i).toNat)
  case atStart => exact ⟨0, [], Nat.zero_le _, Nat.zero_le _, rfl, I0.out⟩
  case round =>
    clear I0
    obtain ⟨k, ns, hk, hk60, rfl, hT⟩ := hrel
    by_cases hlt : k < m ∧ k < 60
    · obtain ⟨hlt1, hlt2⟩ := hlt
      obtain ⟨b, off, rfl, _, _⟩ := H1.out.form opsKind_ok (by omega)
      obtain ⟨o, ho⟩ : ∃ o, es[k]? = some o := ⟨es[k], List.getElem?_eq_getElem (by omega)⟩
      have HO := keep ho
      have ll1 : (k : Int) < (m : Int) := by omega
      have ll2 : (k : Int) < 60 := by omega
      have ll0 : (0 : Int) ≤ (k : Int) := by omega
      have hmem := List.mem_of_getElem? ho
      have hbl := hT.out.bel
      have hbw : Hid (b < w.heap.size) := World.block_lt_of_cell? w _ (op_cells H1.out ho 1 _ rfl)
      have c0 : wr.cell? ⟨b, off + k * 8, none⟩ = some (.int .i64 o.what) := below_cell hbl (op_cells H1.out ho 0 _ rfl)
      have c1 : wr.cell? ⟨b, off + k * 8 + 1, none⟩ = some (.int .i64 o.h) := below_cell hbl (op_cells H1.out ho 1 _ rfl)
      have c2 : wr.cell? ⟨b, off + k * 8 + 2, none⟩ = some (.int .i64 o.n) := below_cell hbl (op_cells H1.out ho 2 _ rfl)
      have c3 : wr.cell? ⟨b, off + k * 8 + 3, none⟩ = some (.slice o.x.kp o.x.e.key.length o.x.kc) := below_cell hbl (op_cells H1.out ho 3 _ rfl)
      have c4 : wr.cell? ⟨b, off + k * 8 + 4, none⟩ = some (.int .i64 o.x.e.seq) := below_cell hbl (op_cells H1.out ho 4 _ rfl)
      have c5 : wr.cell? ⟨b, off + k * 8 + 5, none⟩ = some (.bool o.x.e.gone) := below_cell hbl (op_cells H1.out ho 5 _ rfl)
      have c6 : wr.cell? ⟨b, off + k * 8 + 6, none⟩ = some (.slice o.x.vp o.x.e.val.length o.x.vc) := below_cell hbl (op_cells H1.out ho 6 _ rfl)
      have c7 : wr.cell? ⟨b, off + k * 8 + 7, none⟩ = some (.slice o.tp o.to.length o.tc) := below_cell hbl (op_cells H1.out ho 7 _ rfl)
      have CP := keep (rcopy_any o.x wr (HF.out o hmem).1 (HF.out o hmem).2.1 (entKind_ok.below (H1.out.held o hmem).1 hbl))
      have FIT := keep (HF.out o hmem)
      unfold ev at CP
      clear ho hmem hbl
      obtain ⟨owhat, oh, on, ⟨xkp, xkc, xvp, xvc, ⟨xkey, xseq, xgone, xval⟩⟩, otp, otc, oto⟩ := o
      simp only at CP c0 c1 c2 c3 c4 c5 c6 c7
      go_wp2_with fail
      refine CP.out.mono ?_
      rintro e w1 ⟨y, rfl, hye, hyo, hb1⟩
      have B1 := keep hb1
      have YO := keep hyo
      have YE := keep hye
      obtain ⟨ykp, ykc, yvp, yvc, ⟨ykey, yseq, ygone, yval⟩⟩ := y
      simp only
      clear hye hyo hb1 CP
      obtain ⟨W2, hW2⟩ : ∃ W2, w1.alloc (.cells #[.slice ykp ykey.length ykc, .int .i64 yseq, .bool ygone, .slice yvp yval.length yvc] 28) = W2 := ⟨_, rfl⟩
      have g2 : Hid (W2.heap[w1.heap.size]? = some (.cells #[.slice ykp ykey.length ykc, .int .i64 yseq, .bool ygone, .slice yvp yval.length yvc] 28)) := by rw [← hW2]; exact heap_alloc_new w1 _
      have B2 : Hid (Below w1.heap.size w1 W2) := by rw [← hW2]; exact (Below.refl _ _).alloc (Nat.le_refl _) _
      obtain ⟨E, hE⟩ : ∃ E, w1.heap.size = E := ⟨_, rfl⟩
      rw [hE] at g2
      have HE := keep hE
      have B02 := keep (B1.out.trans (B2.out.mono B1.out.size))
      have M2 := keep (hT.out.mem.below B02.out)
      have nE : Hid (¬ foot l ns E) := fun hf => by have h1 := hT.out.mem.lt hf; have h2 := B1.out.size; omega
      have CE : Hid (∀ w', Kept (foot l ns) W2 w' → w'.heap[E]? = some (.cells #[.slice ykp ykey.length ykc, .int .i64 yseq, .bool ygone, .slice yvp yval.length yvc] 28)) := fun w' hk => (hk.block E (Array.getElem?_eq_some_iff.1 g2.out).1 nE.out).trans g2.out
      have CE4 : Hid (∀ w', Kept (foot l ns) W2 w' → w'.cell? ⟨E, 0, none⟩ = some (.slice ykp ykey.length ykc) ∧ w'.cell? ⟨E, 1, none⟩ = some (.int .i64 yseq) ∧ w'.cell? ⟨E, 2, none⟩ = some (.bool ygone) ∧ w'.cell? ⟨E, 3, none⟩ = some (.slice yvp yval.length yvc)) := fun w' hk => ⟨cell_of_row _ _ _ _ _ _ (CE.out w' hk), cell_of_row _ _ _ _ _ _ (CE.out w' hk), cell_of_row _ _ _ _ _ _ (CE.out w' hk), cell_of_row _ _ _ _ _ _ (CE.out w' hk)⟩
      have CH : Hid (∀ w', Kept (foot l ns) W2 w' → w'.cell? ⟨b, off + k * 8 + 1, none⟩ = some (.int .i64 oh)) := fun w' hk => by
        have h1 : Below w.heap.size w w' := (hT.out.bel.trans (B02.out.mono hT.out.bel.size)).trans (hk.below (Nat.le_trans hT.out.bel.size B02.out.size) (fun g hg => hT.out.mem.far g hg))
        exact below_cell h1 (op_cells H1.out HO.out 1 _ rfl)
      have PU : Hid (∀ w', Below W2.heap.size W2 w' → Calls Try.prog 7 #[.pointer (some ⟨l, 0, none⟩), .agg #[.slice ykp ykey.length ykc, .int .i64 yseq, .bool ygone, .slice yvp yval.length yvc], .int .i64 oh] w' fun e w'' => ∃ z, e = .returned (.int .i64 z) ∧ ∃ ns', LMem w.heap.size w'' l ns' ∧ ents ns' = putE (ents ns) ⟨ykey, yseq, ygone, yval⟩ oh ∧ Kept (foot l ns) W2 w'' ∧ ∀ n ∈ ns', n ∈ ns ∨ (W2.heap.size ≤ n.g ∧ NewB W2.heap.size n.x)) := fun w' hb => by
        have h1 : xkey = ykey ∧ xval = yval := by have := YE.out; cases this; exact ⟨rfl, rfl⟩
        have h2 := FIT.out.1
        have h3 := FIT.out.2.1
        simp only at h2 h3
        rw [h1.1] at h2
        rw [h1.2] at h3
        refine (put_anyN w.heap.size l ns (⟨ykp, ykc, yvp, yvc, ⟨ykey, yseq, ygone, yval⟩⟩ : EV) oh w' (M2.out.below hb) (Nat.le_trans (Nat.le_trans hT.out.bel.size B02.out.size) hb.size) (by have := hT.out.len; omega) ((YO.out.block B2.out).block hb).held (Nat.le_trans h2 (by decide)) (Nat.le_trans h3 (by decide))).mono ?_
        rintro e w'' ⟨he, ns', h4, h5, h6, h7⟩
        refine ⟨_, he, ns', h4, h5, (Kept.of_below hb).trans h6, fun n hn => ?_⟩
        rcases h7 n hn with h8 | ⟨h8, h9⟩
        · exact .inl h8
        · exact .inr ⟨Nat.le_trans hb.size h8, h9.low hb.size⟩
      clear c0 c1 c2 c3 c4 c5 c6 c7
      go_wp2_with fail
      refine wp_region_held_drew (S := fun w' => Kept (foot l ns) W2 w') (by kernel_rfl) ((Kept.refl _ _).drew) (fun hZ => ?_)
      refine takeH (i := 0) 40 (v := .pointer (some ⟨l, 0, none⟩)) rfl rfl (by kernel_rfl) (by kernel_rfl) (by kernel_rfl) (fun _ _ _ h => h) (Or.inl ⟨by rfl, ?_⟩) (by assumption) ?_
      · intro w' hSw'
        go_simp
      simp only [Act.put, List.setIfInBounds_toArray, List.set_cons_zero, List.set_cons_succ]
      refine takeH (i := 1) 41 (v := .agg #[.slice ykp ykey.length ykc, .int .i64 yseq, .bool ygone, .slice yvp yval.length yvc]) rfl rfl (by kernel_rfl) (by kernel_rfl) (by kernel_rfl) (fun _ _ _ h => h) (Or.inl ⟨by rfl, ?_⟩) (by assumption) ?_
      · intro w' hSw'
        obtain ⟨y0, y1, y2, y3⟩ := CE4.out w' hSw'
        go_simp
      simp only [Act.put, List.setIfInBounds_toArray, List.set_cons_zero, List.set_cons_succ]
      refine takeH (i := 2) 42 (v := .slice (some ⟨b, off, none⟩) m c) rfl rfl (by kernel_rfl) (by kernel_rfl) (by kernel_rfl) (fun _ _ _ h => h) (Or.inl ⟨by rfl, ?_⟩) (by assumption) ?_
      · intro w' hSw'
        go_simp
      simp only [Act.put, List.setIfInBounds_toArray, List.set_cons_zero, List.set_cons_succ]
      refine takeH (i := 3) 43 (v := .int .i64 (k : Int)) rfl rfl (by kernel_rfl) (by kernel_rfl) (by kernel_rfl) (fun _ _ _ h => h) (Or.inl ⟨by rfl, ?_⟩) (by assumption) ?_
      · intro w' hSw'
        go_simp
      simp only [Act.put, List.setIfInBounds_toArray, List.set_cons_zero, List.set_cons_succ]
      refine takeH (i := 4) 44 (v := .pointer (some ⟨b, off + k * 8, none⟩)) rfl rfl (by kernel_rfl) (by kernel_rfl) (by kernel_rfl) (fun _ _ _ h => h) (Or.inl ⟨by rfl, ?_⟩) (by assumption) ?_
      · intro w' hSw'
        go_simp
      simp only [Act.put, List.setIfInBounds_toArray, List.set_cons_zero, List.set_cons_succ]
      refine takeH (i := 5) 45 (v := .pointer (some ⟨b, off + k * 8 + 1, none⟩)) rfl rfl (by kernel_rfl) (by kernel_rfl) (by kernel_rfl) (fun _ _ _ h => h) (Or.inl ⟨by rfl, ?_⟩) (by assumption) ?_
      · intro w' hSw'
        go_simp
      simp only [Act.put, List.setIfInBounds_toArray, List.set_cons_zero, List.set_cons_succ]
      refine takeH (i := 6) 46 (v := .int .i64 oh) rfl rfl (by kernel_rfl) (by kernel_rfl) (by kernel_rfl) (fun _ _ _ h => h) (Or.inl ⟨by rfl, ?_⟩) (by assumption) ?_
      · intro w' hSw'
        have y1 := CH.out w' hSw'
        go_simp
      simp only [Act.put, List.setIfInBounds_toArray, List.set_cons_zero, List.set_cons_succ]
      refine wpAnyH_ready (rs := [7]) (by kernel_rfl) (by simp) ?_
      refine AllReadyH.cons rfl (fun K hK => ?_) AllReadyH.nil
      go_simp
      refine (PU.out _ (Below.refl _ _).drew).mono ?_
      rintro e w3 ⟨z, rfl, ns', h4, h5, h6, h7⟩
      have M3 := keep h4
      have E3 := keep h5
      have K3 := keep h6
      have N3 := keep h7
      clear h4 h5 h6 h7
      go_wp2_with fail
      refine hK.out _ _ (K3.out) (fun hZ1 => ?_)
      clear hK K
      refine wpAnyH_done (by kernel_rfl) ?_ _
      clear PU CH hW2
      have CE3 : Hid (∀ w', Kept (holds (⟨ykp, ykc, yvp, yvc, ⟨ykey, yseq, ygone, yval⟩⟩ : EV)) w3 w' → w'.cell? ⟨E, 0, none⟩ = some (.slice ykp ykey.length ykc) ∧ w'.cell? ⟨E, 3, none⟩ = some (.slice yvp yval.length yvc)) := fun w' hk => by
        have h1 := (hk.block E (Array.getElem?_eq_some_iff.1 (CE.out w3 K3.out)).1 (fun e => by have := (YO.out.ltH e).2; have := HE.out; omega)).trans (CE.out w3 K3.out)
        exact ⟨cell_of_row _ _ _ _ _ _ h1, cell_of_row _ _ _ _ _ _ h1⟩
      have Y3 : Hid (OwnE wr.heap.size w3 (⟨ykp, ykc, yvp, yvc, ⟨ykey, yseq, ygone, yval⟩⟩ : EV)) := (YO.out.block B2.out).keepH (fun g hg => K3.out.block g ((YO.out.block B2.out).ltH hg).2 (fun e => by have h1 := hT.out.mem.lt e; have h2 := (YO.out.ltH hg).1; omega))
      have T3 : Hid (Kept (holds (⟨ykp, ykc, yvp, yvc, ⟨ykey, yseq, ygone, yval⟩⟩ : EV)) w3 w3 ∧ BytE w3 (⟨ykp, ykc, yvp, yvc, ⟨ykey, yseq, ygone, yval⟩⟩ : EV)) := ⟨Kept.refl _ _, Y3.out.byt⟩
      clear CE CE4 g2 nE M2
      obtain ⟨KL, hKL⟩ : ∃ KL, ykey.length = KL := ⟨_, rfl⟩
      obtain ⟨VL, hVL⟩ : ∃ VL, yval.length = VL := ⟨_, rfl⟩
      have hKB : KL ≤ 140737488355328 ∧ VL ≤ 140737488355328 := by
        have h1 : xkey = ykey ∧ xval = yval := by have := YE.out; cases this; exact ⟨rfl, rfl⟩
        have h2 := FIT.out.1
        have h3 := FIT.out.2.1
        simp only at h2 h3
        rw [h1.1, hKL] at h2
        rw [h1.2, hVL] at h3
        exact ⟨h2, h3⟩
      obtain ⟨hKB1, hKB2⟩ := hKB
      rw [hKL, hVL] at CE3
      have HKL := keep hKL
      have HVL := keep hVL
      clear hKL hVL
      go_wp2
      go_loopw [7] (fun i wr => ∃ j : Nat, j ≤ KL ∧ i = .int .i64 (j : Int) ∧ Hid (Kept (holds (⟨ykp, ykc, yvp, yvc, ⟨ykey, yseq, ygone, yval⟩⟩ : EV)) w3 wr ∧ BytE wr (⟨ykp, ykc, yvp, yvc, ⟨ykey, yseq, ygone, yval⟩⟩ : EV))) (fun i _ => KL - (intOf i).toNat)
      case atStart => exact ⟨0, Nat.zero_le _, rfl, T3.out⟩
      case round =>
        obtain ⟨j, hj, rfl, hJ⟩ := hrel
        obtain ⟨s0, s3⟩ := CE3.out wr hJ.out.1
        by_cases hjl : j < KL
        · have jj0 : (0 : Int) ≤ (j : Int) := by omega
          have jj1 : (j : Int) < (KL : Int) := by omega
          have hln := HKL.out
          obtain ⟨g, hg⟩ := own_at Y3.out.1 (by simp only; omega)
          simp only at hg
          obtain ⟨z, hz1, hz2⟩ := hJ.out.2.key hg (j := j) (by simp only; omega)
          have HG : Hid ((kS (⟨ykp, ykc, yvp, yvc, ⟨ykey, yseq, ygone, yval⟩⟩ : EV)).ownBlock = some g) := by show _ = _; unfold kS; simp only; rw [hg]; rfl
          have NX : Hid (∀ z' : Int, Kept (holds (⟨ykp, ykc, yvp, yvc, ⟨ykey, yseq, ygone, yval⟩⟩ : EV)) w3 (wr.setCell ⟨g, j, none⟩ (.int .u8 z')) ∧ BytE (wr.setCell ⟨g, j, none⟩ (.int .u8 z')) (⟨ykp, ykc, yvp, yvc, ⟨ykey, yseq, ygone, yval⟩⟩ : EV)) := fun z' => ⟨hJ.out.1.setCell (p := ⟨g, j, none⟩) (.inl (.inl HG.out)) _, hJ.out.2.turn hz1⟩
          rw [hg] at s0
          clear hg hln
          go_wp2
          go_roundw
          case rel => exact ⟨j + 1, by omega, by go_num, NX.out _⟩
          case measure => simp [intOf]; omega
        · have jj1 : ¬ (j : Int) < (KL : Int) := by omega
          have T4 := keep hJ.out
          go_wp2
          clear hJ s0 s3 hj jj1 hjl
          go_loopw [8] (fun i wr => ∃ j : Nat, j ≤ VL ∧ i = .int .i64 (j : Int) ∧ Hid (Kept (holds (⟨ykp, ykc, yvp, yvc, ⟨ykey, yseq, ygone, yval⟩⟩ : EV)) w3 wr ∧ BytE wr (⟨ykp, ykc, yvp, yvc, ⟨ykey, yseq, ygone, yval⟩⟩ : EV))) (fun i _ => VL - (intOf i).toNat)
          case atStart => exact ⟨0, Nat.zero_le _, rfl, T4.out⟩
          case round =>
            obtain ⟨j, hj, rfl, hJ⟩ := hrel
            obtain ⟨s0, s3⟩ := CE3.out wr hJ.out.1
            by_cases hjl : j < VL
            · have jj0 : (0 : Int) ≤ (j : Int) := by omega
              have jj1 : (j : Int) < (VL : Int) := by omega
              have hln := HVL.out
              obtain ⟨g, hg⟩ := own_at Y3.out.2 (by simp only; omega)
              simp only at hg
              obtain ⟨z, hz1, hz2⟩ := hJ.out.2.val hg (j := j) (by simp only; omega)
              have HG : Hid ((vS (⟨ykp, ykc, yvp, yvc, ⟨ykey, yseq, ygone, yval⟩⟩ : EV)).ownBlock = some g) := by show _ = _; unfold vS; simp only; rw [hg]; rfl
              have NX : Hid (∀ z' : Int, Kept (holds (⟨ykp, ykc, yvp, yvc, ⟨ykey, yseq, ygone, yval⟩⟩ : EV)) w3 (wr.setCell ⟨g, j, none⟩ (.int .u8 z')) ∧ BytE (wr.setCell ⟨g, j, none⟩ (.int .u8 z')) (⟨ykp, ykc, yvp, yvc, ⟨ykey, yseq, ygone, yval⟩⟩ : EV)) := fun z' => ⟨hJ.out.1.setCell (p := ⟨g, j, none⟩) (.inl (.inr HG.out)) _, hJ.out.2.turn hz1⟩
              rw [hg] at s3
              clear hg hln
              go_wp2
              go_roundw
              case rel => exact ⟨j + 1, by omega, by go_num, NX.out _⟩
              case measure => simp [intOf]; omega
            · have jj1 : ¬ (j : Int) < (VL : Int) := by omega
              have K5 := keep hJ.out.1
              go_wp2
              go_roundw
              case rel => exact ⟨k + 1, ns', by omega, by omega, by go_num, KpI.next hT.out HO.out YE.out YO.out B1.out B2.out M3.out E3.out K3.out N3.out K5.out⟩
              case measure => simp [intOf]; omega
    · by_cases h1 : k < m
      · have ll1 : (k : Int) < (m : Int) := by omega
        have ll2 : ¬ (k : Int) < 60 := by omega
        have AL := keep (all_mem l ns wr hT.out.mem.mem (by have := hT.out.len; omega))
        go_wp2_with fail
        refine AL.out.mono ?_
        rintro e w6 ⟨va, rs, rfl, hE, hz, hb6⟩
        have EA := keep hE
        have ZA : Hid (rs.map (·.e) = ents ns) := hz
        have B6 := keep hb6
        clear hE hz hb6 AL
        have AL := keep (all_mem l ns w6 (hT.out.mem.mem.below B6.out) (by have := hT.out.len; omega))
        obtain ⟨ap, ac, hva, SA, _⟩ := RSrc.own entKind_ok EA.out.row (fun z hz => (EA.out.each z hz).held)
        subst hva
        go_wp2_with fail
        refine AL.out.mono ?_
        rintro e w7 ⟨vb, bs, rfl, hE, hz, hb7⟩
        have EB := keep hE
        have ZB : Hid (bs.map (·.e) = ents ns) := hz
        have B7 := keep hb7
        clear hE hz hb7 AL
        have hAN : rs.length = ns.length := by have := congrArg List.length ZA.out; simpa [ents] using this
        have hBN : bs.length = ns.length := by have := congrArg List.length ZB.out; simpa [ents] using this
        obtain ⟨N, hN⟩ : ∃ N, ns.length = N := ⟨_, rfl⟩
        rw [hN] at hAN hBN
        have HN := keep hN
        have HAN := keep hAN
        have HBN := keep hBN
        have hN60 : N ≤ 60 := by have := hT.out.len; omega
        obtain ⟨bp, bc, hvb, _, _⟩ := RSrc.own entKind_ok EB.out.row (fun z hz => (EB.out.each z hz).held)
        subst hvb
        rw [hBN] at EB ⊢
        have hlb : ∀ g, held rs g → wr.heap.size ≤ g ∧ g < w6.heap.size := fun g hg => by
          obtain ⟨y, hy, hh⟩ := hg
          exact (EA.out.each y hy).ltH hh
        have HLB := keep hlb
        have HTG : Hid (∀ g, held rs g → ∃ c, w7.heap[g]? = some (.cells c 5 (0, 0))) := fun g hg => by
          obtain ⟨y, hy, hh⟩ := hg
          exact ((EA.out.each y hy).block B7.out).tagH hh
        have T7 : Hid (Trn w7 rs w7) := ⟨Kept.refl _ _, fun y hy => ((EA.out.each y hy).block B7.out).byt⟩
        have SA7 : Hid (∀ w', Kept (held rs) w7 w' → ∀ i y, rs[i]? = some y → ∃ ab aoff, ap = some ⟨ab, aoff, none⟩ ∧ w'.cell? ⟨ab, aoff + i * 4, none⟩ = some (.slice y.kp y.e.key.length y.kc) ∧ w'.cell? ⟨ab, aoff + i * 4 + 3, none⟩ = some (.slice y.vp y.e.val.length y.vc)) := fun w' hk i y hy => by
          have hi := (List.getElem?_eq_some_iff.1 hy).1
          obtain ⟨ab, aoff, rfl, _, _⟩ := SA.form entKind_ok (by omega)
          obtain ⟨c0, _, _, c3⟩ := ent_cells (SA.below entKind_ok B7.out) hy
          have hrow : w'.heap[ab]? = w7.heap[ab]? := hk.block ab (World.block_lt_of_cell? w7 _ c0) (fun e => by
            obtain ⟨c, hc⟩ := HTG.out ab e
            obtain ⟨cur, hcu⟩ := own_tag (EA.out.below B7.out).row (g := ab) rfl
            rw [hc] at hcu
            cases hcu)
          exact ⟨ab, aoff, rfl, by rw [World.cell?_of_block (w := w7) (a := ⟨ab, aoff + i * 4, none⟩) hrow]; exact c0, by rw [World.cell?_of_block (w := w7) (a := ⟨ab, aoff + i * 4 + 3, none⟩) hrow]; exact c3⟩
        rw [hAN]
        clear hN hAN hBN hlb
        go_wp2
        go_loopw [11] (fun i wr => ∃ k : Nat, k ≤ N ∧ i = .int .i64 (k : Int) ∧ Hid (Trn w7 rs wr)) (fun i _ => N - (intOf i).toNat)
        case atStart => exact ⟨0, Nat.zero_le _, rfl, T7.out⟩
        case round =>
          obtain ⟨i, hi, rfl, hR⟩ := hrel
          by_cases hin : i < N
          · have ii0 : (0 : Int) ≤ (i : Int) := by omega
            have ii1 : (i : Int) < (N : Int) := by omega
            obtain ⟨y, hy⟩ : ∃ y, rs[i]? = some y := ⟨rs[i]'(by rw [HAN.out]; exact hin), List.getElem?_eq_getElem _⟩
            have HYM := keep (List.mem_of_getElem? hy)
            have EY := keep (EA.out.each y HYM.out)
            obtain ⟨ab, aoff, hap, _, _⟩ := SA7.out wr hR.out.kept i y hy
            subst hap
            have CA : Hid (∀ w', Kept (held rs) w7 w' → w'.cell? ⟨ab, aoff + i * 4, none⟩ = some (.slice y.kp y.e.key.length y.kc) ∧ w'.cell? ⟨ab, aoff + i * 4 + 3, none⟩ = some (.slice y.vp y.e.val.length y.vc)) := fun w' hk => by
              obtain ⟨ab', aoff', e, h1, h2⟩ := SA7.out w' hk i y hy
              cases e
              exact ⟨h1, h2⟩
            have TR := keep hR.out
            obtain ⟨ykp, ykc, yvp, yvc, ⟨ykey, yseq, ygone, yval⟩⟩ := y
            simp only at CA
            obtain ⟨KL, hKL⟩ : ∃ KL, ykey.length = KL := ⟨_, rfl⟩
            obtain ⟨VL, hVL⟩ : ∃ VL, yval.length = VL := ⟨_, rfl⟩
            have hKB : KL ≤ 64 ∧ VL ≤ 1024 := by
              have h1 : (⟨ykey, yseq, ygone, yval⟩ : Ent) ∈ ents ns := by rw [← ZA.out]; exact List.mem_map_of_mem HYM.out
              obtain ⟨n, hn, he⟩ := List.mem_map.1 h1
              have h2 := hT.out.mem.mem.short n hn
              rw [he] at h2
              simp only at h2
              rw [hKL, hVL] at h2
              exact h2
            obtain ⟨hKB1, hKB2⟩ := hKB
            rw [hKL, hVL] at CA
            have HKL := keep hKL
            have HVL := keep hVL
            clear hKL hVL hy hR
            go_wp2
            go_loopw [12] (fun i wr => ∃ j : Nat, j ≤ KL ∧ i = .int .i64 (j : Int) ∧ Hid (Trn w7 rs wr)) (fun i _ => KL - (intOf i).toNat)
            case atStart => exact ⟨0, Nat.zero_le _, rfl, TR.out⟩
            case round =>
              obtain ⟨j, hj, rfl, hJ⟩ := hrel
              obtain ⟨s0, s3⟩ := CA.out wr hJ.out.kept
              by_cases hjl : j < KL
              · have jj0 : (0 : Int) ≤ (j : Int) := by omega
                have jj1 : (j : Int) < (KL : Int) := by omega
                have hln := HKL.out
                obtain ⟨g, hg⟩ := own_at EY.out.1 (by simp only; omega)
                simp only at hg
                obtain ⟨z, hz1, hz2⟩ := (hJ.out.byt _ HYM.out).key hg (j := j) (by simp only; omega)
                have HG : Hid ((kS (⟨ykp, ykc, yvp, yvc, ⟨ykey, yseq, ygone, yval⟩⟩ : EV)).ownBlock = some g) := by show _ = _; unfold kS; simp only; rw [hg]; rfl
                have NX : Hid (∀ z' : Int, Trn w7 rs (wr.setCell ⟨g, j, none⟩ (.int .u8 z'))) := fun z' => hJ.out.turn ⟨_, HYM.out, .inl HG.out⟩ hz1
                rw [hg] at s0
                clear hg hln
                go_wp2
                go_roundw
                case rel => exact ⟨j + 1, by omega, by go_num, NX.out _⟩
                case measure => simp [intOf]; omega
              · have jj1 : ¬ (j : Int) < (KL : Int) := by omega
                have T4 := keep hJ.out
                go_wp2
                clear hJ s0 s3 hj jj1 hjl
                go_loopw [13] (fun i wr => ∃ j : Nat, j ≤ VL ∧ i = .int .i64 (j : Int) ∧ Hid (Trn w7 rs wr)) (fun i _ => VL - (intOf i).toNat)
                case atStart => exact ⟨0, Nat.zero_le _, rfl, T4.out⟩
                case round =>
                  obtain ⟨j, hj, rfl, hJ⟩ := hrel
                  obtain ⟨s0, s3⟩ := CA.out wr hJ.out.kept
                  by_cases hjl : j < VL
                  · have jj0 : (0 : Int) ≤ (j : Int) := by omega
                    have jj1 : (j : Int) < (VL : Int) := by omega
                    have hln := HVL.out
                    obtain ⟨g, hg⟩ := own_at EY.out.2 (by simp only; omega)
                    simp only at hg
                    obtain ⟨z, hz1, hz2⟩ := (hJ.out.byt _ HYM.out).val hg (j := j) (by simp only; omega)
                    have HG : Hid ((vS (⟨ykp, ykc, yvp, yvc, ⟨ykey, yseq, ygone, yval⟩⟩ : EV)).ownBlock = some g) := by show _ = _; unfold vS; simp only; rw [hg]; rfl
                    have NX : Hid (∀ z' : Int, Trn w7 rs (wr.setCell ⟨g, j, none⟩ (.int .u8 z'))) := fun z' => hJ.out.turn ⟨_, HYM.out, .inr HG.out⟩ hz1
                    rw [hg] at s3
                    clear hg hln
                    go_wp2
                    go_roundw
                    case rel => exact ⟨j + 1, by omega, by go_num, NX.out _⟩
                    case measure => simp [intOf]; omega
                  · have jj1 : ¬ (j : Int) < (VL : Int) := by omega
                    have R5 := keep hJ.out
                    go_wp2
                    go_roundw
                    case rel => exact ⟨i + 1, by omega, by go_num, R5.out⟩
                    case measure => simp [intOf]; omega
          · have ii1 : ¬ (i : Int) < (N : Int) := by omega
            have TR := keep hR.out
            have M8 : Hid (LMem w.heap.size wr l ns) := ((hT.out.mem.below B6.out).below B7.out).keptH TR.out.kept (fun g hg _ => by
              have h1 := HLB.out g hg
              refine ⟨fun hf => ?_, fun n hn hh => ?_⟩
              · have := hT.out.mem.lt hf; omega
              · have := ((hT.out.mem.own n hn).ltH hh).2; omega)
            have EB8 : Hid (Ents w6.heap.size wr (.slice bp N bc) bs) := EB.out.keptU TR.out.kept (fun g hg => (HLB.out g hg).2)
            have b07 := keep ((hT.out.bel.trans (B6.out.mono hT.out.bel.size)).trans (B7.out.mono (Nat.le_trans hT.out.bel.size B6.out.size)))
            have b08 : Hid (Below w.heap.size w wr) := b07.out.trans (TR.out.kept.below b07.out.size (fun g hg => Nat.le_trans hT.out.bel.size (HLB.out g hg).1))
            have SAME := keep hT.out.same
            have KLEN := keep hT.out.len
            clear hR TR HLB HTG SA7 T7 SA EA EB B6 B7 b07 hin hi
            obtain ⟨w8, hw8⟩ : ∃ w8, wr = w8 := ⟨_, rfl⟩
            rw [hw8] at M8 EB8 b08 ⊢
            clear hw8
            obtain ⟨W9, hW9⟩ : ∃ W9, w8.alloc (.cells #[.slice none 0 0, .slice none 0 0] 39) = W9 := ⟨_, rfl⟩
            have B9 : Hid (Below w8.heap.size w8 W9) := by rw [← hW9]; exact (Below.refl _ _).alloc (Nat.le_refl _) _
            have R9 : Hid (RMem w8.heap.size W9 w8.heap.size [] []) := by rw [← hW9]; exact ⟨Nat.le_refl _, ⟨.slice none 0 0, .slice none 0 0, heap_alloc_new _ _, Ents.nil _ _, World.ownsRow_nil _ _ _ _⟩, rfl, trivial, (fun y hy => by cases hy)⟩
            go_wp2
            clear hW9
            go_loopw [15] (fun i wr => ∃ (k : Nat) (ys : List EV) (hs : List Int), k ≤ m ∧ k ≤ 60 ∧ i = .int .i64 (k : Int) ∧ Hid (RMem w8.heap.size wr w8.heap.size ys hs ∧ ys.map (·.e) = puts [] ((opsE es).take k) ∧ ys.length ≤ k ∧ Below w8.heap.size w8 wr)) (fun i _ => m - (intOf i).toNat)
            case atStart => exact ⟨0, [], [], Nat.zero_le _, Nat.zero_le _, rfl, R9.out, rfl, Nat.le_refl _, B9.out⟩
            case round =>
              obtain ⟨k2, ys, hs, hk2, hk260, rfl, hQ⟩ := hrel
              clear R9 B9
              by_cases hlt : k2 < m ∧ k2 < 60
              · obtain ⟨hlt1, hlt2⟩ := hlt
                obtain ⟨b, off, rfl, _, _⟩ := H1.out.form opsKind_ok (by omega)
                obtain ⟨o, ho⟩ : ∃ o, es[k2]? = some o := ⟨es[k2], List.getElem?_eq_getElem (by omega)⟩
                have HO := keep ho
                have jl1 : (k2 : Int) < (m : Int) := by omega
                have jl2 : (k2 : Int) < 60 := by omega
                have jl0 : (0 : Int) ≤ (k2 : Int) := by omega
                have hmem := List.mem_of_getElem? ho
                have bw := keep (b08.out.trans (hQ.out.2.2.2.mono b08.out.size))
                have hbw : Hid (b < w.heap.size) := World.block_lt_of_cell? w _ (op_cells H1.out ho 1 _ rfl)
                have CC : Hid (∀ w', Kept (fun g => g = w8.heap.size) wr w' → ∀ (j : Nat) u, (opsKind.vals o)[j]? = some u → w'.cell? ⟨b, off + k2 * 8 + j, none⟩ = some u) := fun w' hk j u hu => by
                  have h1 := below_cell bw.out (op_cells H1.out HO.out j u hu)
                  rw [hk.cell (p := ⟨b, off + k2 * 8 + j, none⟩) (World.block_lt_of_cell? wr _ h1) (fun e => by have h2 : b = w8.heap.size := e; have h3 := hbw.out; have h4 := b08.out.size; omega)]
                  exact h1
                have PU : Hid (∀ w', Below wr.heap.size wr w' → Calls Try.prog 9 #[.pointer (some ⟨w8.heap.size, 0, none⟩), ev o.x, .int .i64 o.h] w' fun e w'' => ∃ z, e = .returned (.int .i64 z) ∧ ∃ ys' hs', RMem w8.heap.size w'' w8.heap.size ys' hs' ∧ ys'.map (·.e) = putE (ys.map (·.e)) o.x.e o.h ∧ Kept (fun g => g = w8.heap.size) wr w'') := fun w' hb => by
                  refine (rput_pair w8.heap.size w8.heap.size ys hs o.x o.h w' (hQ.out.1.below hb) (Nat.le_trans hQ.out.2.2.2.size hb.size) (by have := hQ.out.2.2.1; omega) (entKind_ok.below (entKind_ok.below (H1.out.held o hmem).1 bw.out) hb) (Nat.le_trans (HF.out o hmem).1 (by decide)) (Nat.le_trans (HF.out o hmem).2.1 (by decide))).mono ?_
                  rintro e w'' ⟨he, ys', hs', h4, h5, h6⟩
                  refine ⟨_, he, ys', hs', h4, ?_, (Kept.of_below hb).trans h6⟩
                  have h7 := congrArg (List.map Prod.fst) h5
                  rw [rts_fst h4.len, putP_fst, rts_fst hQ.out.1.len] at h7
                  exact h7
                unfold ev at PU
                clear ho hmem
                obtain ⟨owhat, oh, on, ⟨xkp, xkc, xvp, xvc, ⟨xkey, xseq, xgone, xval⟩⟩, otp, otc, oto⟩ := o
                simp only at PU
                have C6 : Hid (∀ w', Kept (fun g => g = w8.heap.size) wr w' → w'.cell? ⟨b, off + k2 * 8 + 1, none⟩ = some (.int .i64 oh) ∧ w'.cell? ⟨b, off + k2 * 8 + 3, none⟩ = some (.slice xkp xkey.length xkc) ∧ w'.cell? ⟨b, off + k2 * 8 + 4, none⟩ = some (.int .i64 xseq) ∧ w'.cell? ⟨b, off + k2 * 8 + 5, none⟩ = some (.bool xgone) ∧ w'.cell? ⟨b, off + k2 * 8 + 6, none⟩ = some (.slice xvp xval.length xvc)) := fun w' hk => ⟨CC.out w' hk 1 _ rfl, CC.out w' hk 3 _ rfl, CC.out w' hk 4 _ rfl, CC.out w' hk 5 _ rfl, CC.out w' hk 6 _ rfl⟩
                clear CC
                go_wp2_with fail
                refine wp_region_held_drew (S := fun w' => Kept (fun g => g = w8.heap.size) wr w') (by kernel_rfl) ((Kept.refl _ _).drew) (fun hZ => ?_)
                refine takeH (i := 0) 138 (v := .pointer (some ⟨w8.heap.size, 0, none⟩)) rfl rfl (by kernel_rfl) (by kernel_rfl) (by kernel_rfl) (fun _ _ _ h => h) (Or.inl ⟨by rfl, ?_⟩) (by assumption) ?_
                · intro w' hSw'
                  go_simp
                simp only [Act.put, List.setIfInBounds_toArray, List.set_cons_zero, List.set_cons_succ]
                refine takeH (i := 1) 139 (v := .slice (some ⟨b, off, none⟩) m c) rfl rfl (by kernel_rfl) (by kernel_rfl) (by kernel_rfl) (fun _ _ _ h => h) (Or.inl ⟨by rfl, ?_⟩) (by assumption) ?_
                · intro w' hSw'
                  go_simp
                simp only [Act.put, List.setIfInBounds_toArray, List.set_cons_zero, List.set_cons_succ]
                refine takeH (i := 2) 140 (v := .int .i64 (k2 : Int)) rfl rfl (by kernel_rfl) (by kernel_rfl) (by kernel_rfl) (fun _ _ _ h => h) (Or.inl ⟨by rfl, ?_⟩) (by assumption) ?_
                · intro w' hSw'
                  go_simp
                simp only [Act.put, List.setIfInBounds_toArray, List.set_cons_zero, List.set_cons_succ]
                refine takeH (i := 3) 141 (v := .pointer (some ⟨b, off + k2 * 8, none⟩)) rfl rfl (by kernel_rfl) (by kernel_rfl) (by kernel_rfl) (fun _ _ _ h => h) (Or.inl ⟨by rfl, ?_⟩) (by assumption) ?_
                · intro w' hSw'
                  go_simp
                simp only [Act.put, List.setIfInBounds_toArray, List.set_cons_zero, List.set_cons_succ]
                refine takeH (i := 4) 142 (v := .pointer (some ⟨b, off + k2 * 8 + 3, none⟩)) rfl rfl (by kernel_rfl) (by kernel_rfl) (by kernel_rfl) (fun _ _ _ h => h) (Or.inl ⟨by rfl, ?_⟩) (by assumption) ?_
                · intro w' hSw'
                  go_simp
                simp only [Act.put, List.setIfInBounds_toArray, List.set_cons_zero, List.set_cons_succ]
                refine takeH (i := 5) 143 (v := .agg #[.slice xkp xkey.length xkc, .int .i64 xseq, .bool xgone, .slice xvp xval.length xvc]) rfl rfl (by kernel_rfl) (by kernel_rfl) (by kernel_rfl) (fun _ _ _ h => h) (Or.inl ⟨by rfl, ?_⟩) (by assumption) ?_
                · intro w' hSw'
                  obtain ⟨y1, y3, y4, y5, y6⟩ := C6.out w' hSw'
                  go_simp
                simp only [Act.put, List.setIfInBounds_toArray, List.set_cons_zero, List.set_cons_succ]
                refine takeH (i := 6) 144 (v := .slice (some ⟨b, off, none⟩) m c) rfl rfl (by kernel_rfl) (by kernel_rfl) (by kernel_rfl) (fun _ _ _ h => h) (Or.inl ⟨by rfl, ?_⟩) (by assumption) ?_
                · intro w' hSw'
                  go_simp
                simp only [Act.put, List.setIfInBounds_toArray, List.set_cons_zero, List.set_cons_succ]
                refine takeH (i := 7) 145 (v := .int .i64 (k2 : Int)) rfl rfl (by kernel_rfl) (by kernel_rfl) (by kernel_rfl) (fun _ _ _ h => h) (Or.inl ⟨by rfl, ?_⟩) (by assumption) ?_
                · intro w' hSw'
                  go_simp
                simp only [Act.put, List.setIfInBounds_toArray, List.set_cons_zero, List.set_cons_succ]
                refine takeH (i := 8) 146 (v := .pointer (some ⟨b, off + k2 * 8, none⟩)) rfl rfl (by kernel_rfl) (by kernel_rfl) (by kernel_rfl) (fun _ _ _ h => h) (Or.inl ⟨by rfl, ?_⟩) (by assumption) ?_
                · intro w' hSw'
                  go_simp
                simp only [Act.put, List.setIfInBounds_toArray, List.set_cons_zero, List.set_cons_succ]
                refine takeH (i := 9) 147 (v := .pointer (some ⟨b, off + k2 * 8 + 1, none⟩)) rfl rfl (by kernel_rfl) (by kernel_rfl) (by kernel_rfl) (fun _ _ _ h => h) (Or.inl ⟨by rfl, ?_⟩) (by assumption) ?_
                · intro w' hSw'
                  go_simp
                simp only [Act.put, List.setIfInBounds_toArray, List.set_cons_zero, List.set_cons_succ]
                refine takeH (i := 10) 148 (v := .int .i64 oh) rfl rfl (by kernel_rfl) (by kernel_rfl) (by kernel_rfl) (fun _ _ _ h => h) (Or.inl ⟨by rfl, ?_⟩) (by assumption) ?_
                · intro w' hSw'
                  obtain ⟨y1, y3, y4, y5, y6⟩ := C6.out w' hSw'
                  go_simp
                simp only [Act.put, List.setIfInBounds_toArray, List.set_cons_zero, List.set_cons_succ]
                refine wpAnyH_ready (rs := [11]) (by kernel_rfl) (by simp) ?_
                refine AllReadyH.cons rfl (fun K hK => ?_) AllReadyH.nil
                go_simp
                refine (PU.out _ (Below.refl _ _).drew).mono ?_
                rintro e w11 ⟨z, rfl, ys', hs', h4, h5, h6⟩
                have M3 := keep h4
                have E3 := keep h5
                have K3 := keep h6
                clear h4 h5 h6
                go_wp2_with fail
                refine hK.out _ _ (K3.out) (fun hZ1 => ?_)
                clear hK K
                refine wpAnyH_done (by kernel_rfl) ?_ _
                go_wp2
                go_roundw
                case rel => exact ⟨k2 + 1, ys', hs', by omega, by omega, by go_num, M3.out, by rw [opsE_more HO.out, puts_more, ← hQ.out.2.1, E3.out], by have h1 := congrArg List.length E3.out; have h2 := putE_length (ys.map (·.e)) ⟨xkey, xseq, xgone, xval⟩ oh; simp only [List.length_map] at h1 h2; have h3 := hQ.out.2.2.1; omega, hQ.out.2.2.2.trans (K3.out.below hQ.out.2.2.2.size (fun g hg => by rw [hg]; exact Nat.le_refl _))⟩
                case measure => simp [intOf]; omega
              · by_cases hh1 : k2 < m
                · have jl1 : (k2 : Int) < (m : Int) := by omega
                  have jl2 : ¬ (k2 : Int) < 60 := by omega
                  have hkk : k2 = k := by omega
                  have YS : Hid (ys.map (·.e) = ents ns) := by show _ = _; rw [hQ.out.2.1, hkk, ← SAME.out]
                  have hYN : ys.length = N := by have := congrArg List.length YS.out; rw [List.length_map, ents_length, HN.out] at this; exact this
                  have HYN := keep hYN
                  have b89 := keep hQ.out.2.2.2
                  have M9 := keep (M8.out.below b89.out)
                  have E9 := keep (EB8.out.below b89.out)
                  have Q9 := keep hQ.out.1
                  have b09 := keep (b08.out.trans (b89.out.mono b08.out.size))
                  have AL := keep (all_mem l ns wr M9.out.mem (by rw [HN.out]; omega))
                  clear hQ hkk hYN M8 EB8 b08 b89 hlt
                  go_wp2_with fail
                  refine AL.out.mono ?_
                  rintro e w10 ⟨vl, zs, rfl, hE, hz, hb10⟩
                  clear jl1 jl2 hh1 hk2 hk260 hm
                  have ZL : Hid (zs.map (·.e) = ents ns) := hz
                  have hLN : zs.length = N := by have := congrArg List.length ZL.out; rw [List.length_map, ents_length, HN.out] at this; exact this
                  obtain ⟨lp, lc, hvl, SL, _⟩ := RSrc.own entKind_ok hE.row (fun z hz => (hE.each z hz).held)
                  subst hvl
                  rw [hLN] at SL ⊢
                  have B10 := keep hb10
                  have E10 := keep (E9.out.below hb10)
                  obtain ⟨bp', bc', hvb', SB, _⟩ := RSrc.own entKind_ok E10.out.row (fun z hz => (E10.out.each z hz).held)
                  obtain ⟨e1, e2, e3⟩ := Value.slice.inj hvb'
                  clear e2 hvb'
                  subst e1
                  subst e3
                  rw [HBN.out] at SB
                  have S1 := keep (same_yes lp N lc zs bp bc bs w10 (by omega) SL SB (ZL.out.trans ZB.out.symm))
                  have SB10 := keep SB
                  clear hE hz hb10 SL SB hLN AL
                  go_wp2_with fail
                  refine S1.out.mono ?_
                  rintro e w11 ⟨rfl, hb11⟩
                  have B11 := keep hb11
                  obtain ⟨ap2, c2, vH, hrow, hRS, _, _⟩ := ((Q9.out.below B10.out).below hb11).src
                  rw [HYN.out] at hrow hRS
                  have cL : w11.cell? ⟨w8.heap.size, 0, none⟩ = some (.slice ap2 N c2) := cell_of_row _ _ _ _ _ _ hrow
                  have S2 := keep (same_yes bp N bc bs ap2 c2 ys w11 (by omega) (SB10.out.below entKind_ok hb11) hRS (ZB.out.trans YS.out.symm))
                  clear hb11 hrow hRS S1
                  go_wp2_with fail
                  refine S2.out.mono ?_
                  rintro e w12 ⟨rfl, hb12⟩
                  have BF := keep (((b09.out.trans (B10.out.mono b09.out.size)).trans (B11.out.mono (Nat.le_trans b09.out.size B10.out.size))).trans (hb12.mono (Nat.le_trans (Nat.le_trans b09.out.size B10.out.size) B11.out.size)))
                  clear hb12 S2 cL
                  go_wp2
                  go_ret
                  exact ⟨rfl, BF.out⟩
                · have jl1 : ¬ (k2 : Int) < (m : Int) := by omega
                  have hkk : k2 = k := by omega
                  have YS : Hid (ys.map (·.e) = ents ns) := by show _ = _; rw [hQ.out.2.1, hkk, ← SAME.out]
                  have hYN : ys.length = N := by have := congrArg List.length YS.out; rw [List.length_map, ents_length, HN.out] at this; exact this
                  have HYN := keep hYN
                  have b89 := keep hQ.out.2.2.2
                  have M9 := keep (M8.out.below b89.out)
                  have E9 := keep (EB8.out.below b89.out)
                  have Q9 := keep hQ.out.1
                  have b09 := keep (b08.out.trans (b89.out.mono b08.out.size))
                  have AL := keep (all_mem l ns wr M9.out.mem (by rw [HN.out]; omega))
                  clear hQ hkk hYN M8 EB8 b08 b89 hlt
                  go_wp2_with fail
                  refine AL.out.mono ?_
                  rintro e w10 ⟨vl, zs, rfl, hE, hz, hb10⟩
                  clear jl1 hh1 hk2 hk260 hm
                  have ZL : Hid (zs.map (·.e) = ents ns) := hz
                  have hLN : zs.length = N := by have := congrArg List.length ZL.out; rw [List.length_map, ents_length, HN.out] at this; exact this
                  obtain ⟨lp, lc, hvl, SL, _⟩ := RSrc.own entKind_ok hE.row (fun z hz => (hE.each z hz).held)
                  subst hvl
                  rw [hLN] at SL ⊢
                  have B10 := keep hb10
                  have E10 := keep (E9.out.below hb10)
                  obtain ⟨bp', bc', hvb', SB, _⟩ := RSrc.own entKind_ok E10.out.row (fun z hz => (E10.out.each z hz).held)
                  obtain ⟨e1, e2, e3⟩ := Value.slice.inj hvb'
                  clear e2 hvb'
                  subst e1
                  subst e3
                  rw [HBN.out] at SB
                  have S1 := keep (same_yes lp N lc zs bp bc bs w10 (by omega) SL SB (ZL.out.trans ZB.out.symm))
                  have SB10 := keep SB
                  clear hE hz hb10 SL SB hLN AL
                  go_wp2_with fail
                  refine S1.out.mono ?_
                  rintro e w11 ⟨rfl, hb11⟩
                  have B11 := keep hb11
                  obtain ⟨ap2, c2, vH, hrow, hRS, _, _⟩ := ((Q9.out.below B10.out).below hb11).src
                  rw [HYN.out] at hrow hRS
                  have cL : w11.cell? ⟨w8.heap.size, 0, none⟩ = some (.slice ap2 N c2) := cell_of_row _ _ _ _ _ _ hrow
                  have S2 := keep (same_yes bp N bc bs ap2 c2 ys w11 (by omega) (SB10.out.below entKind_ok hb11) hRS (ZB.out.trans YS.out.symm))
                  clear hb11 hrow hRS S1
                  go_wp2_with fail
                  refine S2.out.mono ?_
                  rintro e w12 ⟨rfl, hb12⟩
                  have BF := keep (((b09.out.trans (B10.out.mono b09.out.size)).trans (B11.out.mono (Nat.le_trans b09.out.size B10.out.size))).trans (hb12.mono (Nat.le_trans (Nat.le_trans b09.out.size B10.out.size) B11.out.size)))
                  clear hb12 S2 cL
                  go_wp2
                  go_ret
                  exact ⟨rfl, BF.out⟩
      · have ll1 : ¬ (k : Int) < (m : Int) := by omega
        have AL := keep (all_mem l ns wr hT.out.mem.mem (by have := hT.out.len; omega))
        go_wp2_with fail
        refine AL.out.mono ?_
        rintro e w6 ⟨va, rs, rfl, hE, hz, hb6⟩
        have EA := keep hE
        have ZA : Hid (rs.map (·.e) = ents ns) := hz
        have B6 := keep hb6
        clear hE hz hb6 AL
        have AL := keep (all_mem l ns w6 (hT.out.mem.mem.below B6.out) (by have := hT.out.len; omega))
        obtain ⟨ap, ac, hva, SA, _⟩ := RSrc.own entKind_ok EA.out.row (fun z hz => (EA.out.each z hz).held)
        subst hva
        go_wp2_with fail
        refine AL.out.mono ?_
        rintro e w7 ⟨vb, bs, rfl, hE, hz, hb7⟩
        have EB := keep hE
        have ZB : Hid (bs.map (·.e) = ents ns) := hz
        have B7 := keep hb7
        clear hE hz hb7 AL
        have hAN : rs.length = ns.length := by have := congrArg List.length ZA.out; simpa [ents] using this
        have hBN : bs.length = ns.length := by have := congrArg List.length ZB.out; simpa [ents] using this
        obtain ⟨N, hN⟩ : ∃ N, ns.length = N := ⟨_, rfl⟩
        rw [hN] at hAN hBN
        have HN := keep hN
        have HAN := keep hAN
        have HBN := keep hBN
        have hN60 : N ≤ 60 := by have := hT.out.len; omega
        obtain ⟨bp, bc, hvb, _, _⟩ := RSrc.own entKind_ok EB.out.row (fun z hz => (EB.out.each z hz).held)
        subst hvb
        rw [hBN] at EB ⊢
        have hlb : ∀ g, held rs g → wr.heap.size ≤ g ∧ g < w6.heap.size := fun g hg => by
          obtain ⟨y, hy, hh⟩ := hg
          exact (EA.out.each y hy).ltH hh
        have HLB := keep hlb
        have HTG : Hid (∀ g, held rs g → ∃ c, w7.heap[g]? = some (.cells c 5 (0, 0))) := fun g hg => by
          obtain ⟨y, hy, hh⟩ := hg
          exact ((EA.out.each y hy).block B7.out).tagH hh
        have T7 : Hid (Trn w7 rs w7) := ⟨Kept.refl _ _, fun y hy => ((EA.out.each y hy).block B7.out).byt⟩
        have SA7 : Hid (∀ w', Kept (held rs) w7 w' → ∀ i y, rs[i]? = some y → ∃ ab aoff, ap = some ⟨ab, aoff, none⟩ ∧ w'.cell? ⟨ab, aoff + i * 4, none⟩ = some (.slice y.kp y.e.key.length y.kc) ∧ w'.cell? ⟨ab, aoff + i * 4 + 3, none⟩ = some (.slice y.vp y.e.val.length y.vc)) := fun w' hk i y hy => by
          have hi := (List.getElem?_eq_some_iff.1 hy).1
          obtain ⟨ab, aoff, rfl, _, _⟩ := SA.form entKind_ok (by omega)
          obtain ⟨c0, _, _, c3⟩ := ent_cells (SA.below entKind_ok B7.out) hy
          have hrow : w'.heap[ab]? = w7.heap[ab]? := hk.block ab (World.block_lt_of_cell? w7 _ c0) (fun e => by
            obtain ⟨c, hc⟩ := HTG.out ab e
            obtain ⟨cur, hcu⟩ := own_tag (EA.out.below B7.out).row (g := ab) rfl
            rw [hc] at hcu
            cases hcu)
          exact ⟨ab, aoff, rfl, by rw [World.cell?_of_block (w := w7) (a := ⟨ab, aoff + i * 4, none⟩) hrow]; exact c0, by rw [World.cell?_of_block (w := w7) (a := ⟨ab, aoff + i * 4 + 3, none⟩) hrow]; exact c3⟩
        rw [hAN]
        clear hN hAN hBN hlb
        go_wp2
        go_loopw [11] (fun i wr => ∃ k : Nat, k ≤ N ∧ i = .int .i64 (k : Int) ∧ Hid (Trn w7 rs wr)) (fun i _ => N - (intOf i).toNat)
        case atStart => exact ⟨0, Nat.zero_le _, rfl, T7.out⟩
        case round =>
          obtain ⟨i, hi, rfl, hR⟩ := hrel
          by_cases hin : i < N
          · have ii0 : (0 : Int) ≤ (i : Int) := by omega
            have ii1 : (i : Int) < (N : Int) := by omega
            obtain ⟨y, hy⟩ : ∃ y, rs[i]? = some y := ⟨rs[i]'(by rw [HAN.out]; exact hin), List.getElem?_eq_getElem _⟩
            have HYM := keep (List.mem_of_getElem? hy)
            have EY := keep (EA.out.each y HYM.out)
            obtain ⟨ab, aoff, hap, _, _⟩ := SA7.out wr hR.out.kept i y hy
            subst hap
            have CA : Hid (∀ w', Kept (held rs) w7 w' → w'.cell? ⟨ab, aoff + i * 4, none⟩ = some (.slice y.kp y.e.key.length y.kc) ∧ w'.cell? ⟨ab, aoff + i * 4 + 3, none⟩ = some (.slice y.vp y.e.val.length y.vc)) := fun w' hk => by
              obtain ⟨ab', aoff', e, h1, h2⟩ := SA7.out w' hk i y hy
              cases e
              exact ⟨h1, h2⟩
            have TR := keep hR.out
            obtain ⟨ykp, ykc, yvp, yvc, ⟨ykey, yseq, ygone, yval⟩⟩ := y
            simp only at CA
            obtain ⟨KL, hKL⟩ : ∃ KL, ykey.length = KL := ⟨_, rfl⟩
            obtain ⟨VL, hVL⟩ : ∃ VL, yval.length = VL := ⟨_, rfl⟩
            have hKB : KL ≤ 64 ∧ VL ≤ 1024 := by
              have h1 : (⟨ykey, yseq, ygone, yval⟩ : Ent) ∈ ents ns := by rw [← ZA.out]; exact List.mem_map_of_mem HYM.out
              obtain ⟨n, hn, he⟩ := List.mem_map.1 h1
              have h2 := hT.out.mem.mem.short n hn
              rw [he] at h2
              simp only at h2
              rw [hKL, hVL] at h2
              exact h2
            obtain ⟨hKB1, hKB2⟩ := hKB
            rw [hKL, hVL] at CA
            have HKL := keep hKL
            have HVL := keep hVL
            clear hKL hVL hy hR
            go_wp2
            go_loopw [12] (fun i wr => ∃ j : Nat, j ≤ KL ∧ i = .int .i64 (j : Int) ∧ Hid (Trn w7 rs wr)) (fun i _ => KL - (intOf i).toNat)
            case atStart => exact ⟨0, Nat.zero_le _, rfl, TR.out⟩
            case round =>
              obtain ⟨j, hj, rfl, hJ⟩ := hrel
              obtain ⟨s0, s3⟩ := CA.out wr hJ.out.kept
              by_cases hjl : j < KL
              · have jj0 : (0 : Int) ≤ (j : Int) := by omega
                have jj1 : (j : Int) < (KL : Int) := by omega
                have hln := HKL.out
                obtain ⟨g, hg⟩ := own_at EY.out.1 (by simp only; omega)
                simp only at hg
                obtain ⟨z, hz1, hz2⟩ := (hJ.out.byt _ HYM.out).key hg (j := j) (by simp only; omega)
                have HG : Hid ((kS (⟨ykp, ykc, yvp, yvc, ⟨ykey, yseq, ygone, yval⟩⟩ : EV)).ownBlock = some g) := by show _ = _; unfold kS; simp only; rw [hg]; rfl
                have NX : Hid (∀ z' : Int, Trn w7 rs (wr.setCell ⟨g, j, none⟩ (.int .u8 z'))) := fun z' => hJ.out.turn ⟨_, HYM.out, .inl HG.out⟩ hz1
                rw [hg] at s0
                clear hg hln
                go_wp2
                go_roundw
                case rel => exact ⟨j + 1, by omega, by go_num, NX.out _⟩
                case measure => simp [intOf]; omega
              · have jj1 : ¬ (j : Int) < (KL : Int) := by omega
                have T4 := keep hJ.out
                go_wp2
                clear hJ s0 s3 hj jj1 hjl
                go_loopw [13] (fun i wr => ∃ j : Nat, j ≤ VL ∧ i = .int .i64 (j : Int) ∧ Hid (Trn w7 rs wr)) (fun i _ => VL - (intOf i).toNat)
                case atStart => exact ⟨0, Nat.zero_le _, rfl, T4.out⟩
                case round =>
                  obtain ⟨j, hj, rfl, hJ⟩ := hrel
                  obtain ⟨s0, s3⟩ := CA.out wr hJ.out.kept
                  by_cases hjl : j < VL
                  · have jj0 : (0 : Int) ≤ (j : Int) := by omega
                    have jj1 : (j : Int) < (VL : Int) := by omega
                    have hln := HVL.out
                    obtain ⟨g, hg⟩ := own_at EY.out.2 (by simp only; omega)
                    simp only at hg
                    obtain ⟨z, hz1, hz2⟩ := (hJ.out.byt _ HYM.out).val hg (j := j) (by simp only; omega)
                    have HG : Hid ((vS (⟨ykp, ykc, yvp, yvc, ⟨ykey, yseq, ygone, yval⟩⟩ : EV)).ownBlock = some g) := by show _ = _; unfold vS; simp only; rw [hg]; rfl
                    have NX : Hid (∀ z' : Int, Trn w7 rs (wr.setCell ⟨g, j, none⟩ (.int .u8 z'))) := fun z' => hJ.out.turn ⟨_, HYM.out, .inr HG.out⟩ hz1
                    rw [hg] at s3
                    clear hg hln
                    go_wp2
                    go_roundw
                    case rel => exact ⟨j + 1, by omega, by go_num, NX.out _⟩
                    case measure => simp [intOf]; omega
                  · have jj1 : ¬ (j : Int) < (VL : Int) := by omega
                    have R5 := keep hJ.out
                    go_wp2
                    go_roundw
                    case rel => exact ⟨i + 1, by omega, by go_num, R5.out⟩
                    case measure => simp [intOf]; omega
          · have ii1 : ¬ (i : Int) < (N : Int) := by omega
            have TR := keep hR.out
            have M8 : Hid (LMem w.heap.size wr l ns) := ((hT.out.mem.below B6.out).below B7.out).keptH TR.out.kept (fun g hg _ => by
              have h1 := HLB.out g hg
              refine ⟨fun hf => ?_, fun n hn hh => ?_⟩
              · have := hT.out.mem.lt hf; omega
              · have := ((hT.out.mem.own n hn).ltH hh).2; omega)
            have EB8 : Hid (Ents w6.heap.size wr (.slice bp N bc) bs) := EB.out.keptU TR.out.kept (fun g hg => (HLB.out g hg).2)
            have b07 := keep ((hT.out.bel.trans (B6.out.mono hT.out.bel.size)).trans (B7.out.mono (Nat.le_trans hT.out.bel.size B6.out.size)))
            have b08 : Hid (Below w.heap.size w wr) := b07.out.trans (TR.out.kept.below b07.out.size (fun g hg => Nat.le_trans hT.out.bel.size (HLB.out g hg).1))
            have SAME := keep hT.out.same
            have KLEN := keep hT.out.len
            clear hR TR HLB HTG SA7 T7 SA EA EB B6 B7 b07 hin hi
            obtain ⟨w8, hw8⟩ : ∃ w8, wr = w8 := ⟨_, rfl⟩
            rw [hw8] at M8 EB8 b08 ⊢
            clear hw8
            obtain ⟨W9, hW9⟩ : ∃ W9, w8.alloc (.cells #[.slice none 0 0, .slice none 0 0] 39) = W9 := ⟨_, rfl⟩
            have B9 : Hid (Below w8.heap.size w8 W9) := by rw [← hW9]; exact (Below.refl _ _).alloc (Nat.le_refl _) _
            have R9 : Hid (RMem w8.heap.size W9 w8.heap.size [] []) := by rw [← hW9]; exact ⟨Nat.le_refl _, ⟨.slice none 0 0, .slice none 0 0, heap_alloc_new _ _, Ents.nil _ _, World.ownsRow_nil _ _ _ _⟩, rfl, trivial, (fun y hy => by cases hy)⟩
            go_wp2
            clear hW9
            go_loopw [15] (fun i wr => ∃ (k : Nat) (ys : List EV) (hs : List Int), k ≤ m ∧ k ≤ 60 ∧ i = .int .i64 (k : Int) ∧ Hid (RMem w8.heap.size wr w8.heap.size ys hs ∧ ys.map (·.e) = puts [] ((opsE es).take k) ∧ ys.length ≤ k ∧ Below w8.heap.size w8 wr)) (fun i _ => m - (intOf i).toNat)
            case atStart => exact ⟨0, [], [], Nat.zero_le _, Nat.zero_le _, rfl, R9.out, rfl, Nat.le_refl _, B9.out⟩
            case round =>
              obtain ⟨k2, ys, hs, hk2, hk260, rfl, hQ⟩ := hrel
              clear R9 B9
              by_cases hlt : k2 < m ∧ k2 < 60
              · obtain ⟨hlt1, hlt2⟩ := hlt
                obtain ⟨b, off, rfl, _, _⟩ := H1.out.form opsKind_ok (by omega)
                obtain ⟨o, ho⟩ : ∃ o, es[k2]? = some o := ⟨es[k2], List.getElem?_eq_getElem (by omega)⟩
                have HO := keep ho
                have jl1 : (k2 : Int) < (m : Int) := by omega
                have jl2 : (k2 : Int) < 60 := by omega
                have jl0 : (0 : Int) ≤ (k2 : Int) := by omega
                have hmem := List.mem_of_getElem? ho
                have bw := keep (b08.out.trans (hQ.out.2.2.2.mono b08.out.size))
                have hbw : Hid (b < w.heap.size) := World.block_lt_of_cell? w _ (op_cells H1.out ho 1 _ rfl)
                have CC : Hid (∀ w', Kept (fun g => g = w8.heap.size) wr w' → ∀ (j : Nat) u, (opsKind.vals o)[j]? = some u → w'.cell? ⟨b, off + k2 * 8 + j, none⟩ = some u) := fun w' hk j u hu => by
                  have h1 := below_cell bw.out (op_cells H1.out HO.out j u hu)
                  rw [hk.cell (p := ⟨b, off + k2 * 8 + j, none⟩) (World.block_lt_of_cell? wr _ h1) (fun e => by have h2 : b = w8.heap.size := e; have h3 := hbw.out; have h4 := b08.out.size; omega)]
                  exact h1
                have PU : Hid (∀ w', Below wr.heap.size wr w' → Calls Try.prog 9 #[.pointer (some ⟨w8.heap.size, 0, none⟩), ev o.x, .int .i64 o.h] w' fun e w'' => ∃ z, e = .returned (.int .i64 z) ∧ ∃ ys' hs', RMem w8.heap.size w'' w8.heap.size ys' hs' ∧ ys'.map (·.e) = putE (ys.map (·.e)) o.x.e o.h ∧ Kept (fun g => g = w8.heap.size) wr w'') := fun w' hb => by
                  refine (rput_pair w8.heap.size w8.heap.size ys hs o.x o.h w' (hQ.out.1.below hb) (Nat.le_trans hQ.out.2.2.2.size hb.size) (by have := hQ.out.2.2.1; omega) (entKind_ok.below (entKind_ok.below (H1.out.held o hmem).1 bw.out) hb) (Nat.le_trans (HF.out o hmem).1 (by decide)) (Nat.le_trans (HF.out o hmem).2.1 (by decide))).mono ?_
                  rintro e w'' ⟨he, ys', hs', h4, h5, h6⟩
                  refine ⟨_, he, ys', hs', h4, ?_, (Kept.of_below hb).trans h6⟩
                  have h7 := congrArg (List.map Prod.fst) h5
                  rw [rts_fst h4.len, putP_fst, rts_fst hQ.out.1.len] at h7
                  exact h7
                unfold ev at PU
                clear ho hmem
                obtain ⟨owhat, oh, on, ⟨xkp, xkc, xvp, xvc, ⟨xkey, xseq, xgone, xval⟩⟩, otp, otc, oto⟩ := o
                simp only at PU
                have C6 : Hid (∀ w', Kept (fun g => g = w8.heap.size) wr w' → w'.cell? ⟨b, off + k2 * 8 + 1, none⟩ = some (.int .i64 oh) ∧ w'.cell? ⟨b, off + k2 * 8 + 3, none⟩ = some (.slice xkp xkey.length xkc) ∧ w'.cell? ⟨b, off + k2 * 8 + 4, none⟩ = some (.int .i64 xseq) ∧ w'.cell? ⟨b, off + k2 * 8 + 5, none⟩ = some (.bool xgone) ∧ w'.cell? ⟨b, off + k2 * 8 + 6, none⟩ = some (.slice xvp xval.length xvc)) := fun w' hk => ⟨CC.out w' hk 1 _ rfl, CC.out w' hk 3 _ rfl, CC.out w' hk 4 _ rfl, CC.out w' hk 5 _ rfl, CC.out w' hk 6 _ rfl⟩
                clear CC
                go_wp2_with fail
                refine wp_region_held_drew (S := fun w' => Kept (fun g => g = w8.heap.size) wr w') (by kernel_rfl) ((Kept.refl _ _).drew) (fun hZ => ?_)
                refine takeH (i := 0) 138 (v := .pointer (some ⟨w8.heap.size, 0, none⟩)) rfl rfl (by kernel_rfl) (by kernel_rfl) (by kernel_rfl) (fun _ _ _ h => h) (Or.inl ⟨by rfl, ?_⟩) (by assumption) ?_
                · intro w' hSw'
                  go_simp
                simp only [Act.put, List.setIfInBounds_toArray, List.set_cons_zero, List.set_cons_succ]
                refine takeH (i := 1) 139 (v := .slice (some ⟨b, off, none⟩) m c) rfl rfl (by kernel_rfl) (by kernel_rfl) (by kernel_rfl) (fun _ _ _ h => h) (Or.inl ⟨by rfl, ?_⟩) (by assumption) ?_
                · intro w' hSw'
                  go_simp
                simp only [Act.put, List.setIfInBounds_toArray, List.set_cons_zero, List.set_cons_succ]
                refine takeH (i := 2) 140 (v := .int .i64 (k2 : Int)) rfl rfl (by kernel_rfl) (by kernel_rfl) (by kernel_rfl) (fun _ _ _ h => h) (Or.inl ⟨by rfl, ?_⟩) (by assumption) ?_
                · intro w' hSw'
                  go_simp
                simp only [Act.put, List.setIfInBounds_toArray, List.set_cons_zero, List.set_cons_succ]
                refine takeH (i := 3) 141 (v := .pointer (some ⟨b, off + k2 * 8, none⟩)) rfl rfl (by kernel_rfl) (by kernel_rfl) (by kernel_rfl) (fun _ _ _ h => h) (Or.inl ⟨by rfl, ?_⟩) (by assumption) ?_
                · intro w' hSw'
                  go_simp
                simp only [Act.put, List.setIfInBounds_toArray, List.set_cons_zero, List.set_cons_succ]
                refine takeH (i := 4) 142 (v := .pointer (some ⟨b, off + k2 * 8 + 3, none⟩)) rfl rfl (by kernel_rfl) (by kernel_rfl) (by kernel_rfl) (fun _ _ _ h => h) (Or.inl ⟨by rfl, ?_⟩) (by assumption) ?_
                · intro w' hSw'
                  go_simp
                simp only [Act.put, List.setIfInBounds_toArray, List.set_cons_zero, List.set_cons_succ]
                refine takeH (i := 5) 143 (v := .agg #[.slice xkp xkey.length xkc, .int .i64 xseq, .bool xgone, .slice xvp xval.length xvc]) rfl rfl (by kernel_rfl) (by kernel_rfl) (by kernel_rfl) (fun _ _ _ h => h) (Or.inl ⟨by rfl, ?_⟩) (by assumption) ?_
                · intro w' hSw'
                  obtain ⟨y1, y3, y4, y5, y6⟩ := C6.out w' hSw'
                  go_simp
                simp only [Act.put, List.setIfInBounds_toArray, List.set_cons_zero, List.set_cons_succ]
                refine takeH (i := 6) 144 (v := .slice (some ⟨b, off, none⟩) m c) rfl rfl (by kernel_rfl) (by kernel_rfl) (by kernel_rfl) (fun _ _ _ h => h) (Or.inl ⟨by rfl, ?_⟩) (by assumption) ?_
                · intro w' hSw'
                  go_simp
                simp only [Act.put, List.setIfInBounds_toArray, List.set_cons_zero, List.set_cons_succ]
                refine takeH (i := 7) 145 (v := .int .i64 (k2 : Int)) rfl rfl (by kernel_rfl) (by kernel_rfl) (by kernel_rfl) (fun _ _ _ h => h) (Or.inl ⟨by rfl, ?_⟩) (by assumption) ?_
                · intro w' hSw'
                  go_simp
                simp only [Act.put, List.setIfInBounds_toArray, List.set_cons_zero, List.set_cons_succ]
                refine takeH (i := 8) 146 (v := .pointer (some ⟨b, off + k2 * 8, none⟩)) rfl rfl (by kernel_rfl) (by kernel_rfl) (by kernel_rfl) (fun _ _ _ h => h) (Or.inl ⟨by rfl, ?_⟩) (by assumption) ?_
                · intro w' hSw'
                  go_simp
                simp only [Act.put, List.setIfInBounds_toArray, List.set_cons_zero, List.set_cons_succ]
                refine takeH (i := 9) 147 (v := .pointer (some ⟨b, off + k2 * 8 + 1, none⟩)) rfl rfl (by kernel_rfl) (by kernel_rfl) (by kernel_rfl) (fun _ _ _ h => h) (Or.inl ⟨by rfl, ?_⟩) (by assumption) ?_
                · intro w' hSw'
                  go_simp
                simp only [Act.put, List.setIfInBounds_toArray, List.set_cons_zero, List.set_cons_succ]
                refine takeH (i := 10) 148 (v := .int .i64 oh) rfl rfl (by kernel_rfl) (by kernel_rfl) (by kernel_rfl) (fun _ _ _ h => h) (Or.inl ⟨by rfl, ?_⟩) (by assumption) ?_
                · intro w' hSw'
                  obtain ⟨y1, y3, y4, y5, y6⟩ := C6.out w' hSw'
                  go_simp
                simp only [Act.put, List.setIfInBounds_toArray, List.set_cons_zero, List.set_cons_succ]
                refine wpAnyH_ready (rs := [11]) (by kernel_rfl) (by simp) ?_
                refine AllReadyH.cons rfl (fun K hK => ?_) AllReadyH.nil
                go_simp
                refine (PU.out _ (Below.refl _ _).drew).mono ?_
                rintro e w11 ⟨z, rfl, ys', hs', h4, h5, h6⟩
                have M3 := keep h4
                have E3 := keep h5
                have K3 := keep h6
                clear h4 h5 h6
                go_wp2_with fail
                refine hK.out _ _ (K3.out) (fun hZ1 => ?_)
                clear hK K
                refine wpAnyH_done (by kernel_rfl) ?_ _
                go_wp2
                go_roundw
                case rel => exact ⟨k2 + 1, ys', hs', by omega, by omega, by go_num, M3.out, by rw [opsE_more HO.out, puts_more, ← hQ.out.2.1, E3.out], by have h1 := congrArg List.length E3.out; have h2 := putE_length (ys.map (·.e)) ⟨xkey, xseq, xgone, xval⟩ oh; simp only [List.length_map] at h1 h2; have h3 := hQ.out.2.2.1; omega, hQ.out.2.2.2.trans (K3.out.below hQ.out.2.2.2.size (fun g hg => by rw [hg]; exact Nat.le_refl _))⟩
                case measure => simp [intOf]; omega
              · by_cases hh1 : k2 < m
                · have jl1 : (k2 : Int) < (m : Int) := by omega
                  have jl2 : ¬ (k2 : Int) < 60 := by omega
                  have hkk : k2 = k := by omega
                  have YS : Hid (ys.map (·.e) = ents ns) := by show _ = _; rw [hQ.out.2.1, hkk, ← SAME.out]
                  have hYN : ys.length = N := by have := congrArg List.length YS.out; rw [List.length_map, ents_length, HN.out] at this; exact this
                  have HYN := keep hYN
                  have b89 := keep hQ.out.2.2.2
                  have M9 := keep (M8.out.below b89.out)
                  have E9 := keep (EB8.out.below b89.out)
                  have Q9 := keep hQ.out.1
                  have b09 := keep (b08.out.trans (b89.out.mono b08.out.size))
                  have AL := keep (all_mem l ns wr M9.out.mem (by rw [HN.out]; omega))
                  clear hQ hkk hYN M8 EB8 b08 b89 hlt
                  go_wp2_with fail
                  refine AL.out.mono ?_
                  rintro e w10 ⟨vl, zs, rfl, hE, hz, hb10⟩
                  clear jl1 jl2 hh1 hk2 hk260 hm
                  have ZL : Hid (zs.map (·.e) = ents ns) := hz
                  have hLN : zs.length = N := by have := congrArg List.length ZL.out; rw [List.length_map, ents_length, HN.out] at this; exact this
                  obtain ⟨lp, lc, hvl, SL, _⟩ := RSrc.own entKind_ok hE.row (fun z hz => (hE.each z hz).held)
                  subst hvl
                  rw [hLN] at SL ⊢
                  have B10 := keep hb10
                  have E10 := keep (E9.out.below hb10)
                  obtain ⟨bp', bc', hvb', SB, _⟩ := RSrc.own entKind_ok E10.out.row (fun z hz => (E10.out.each z hz).held)
                  obtain ⟨e1, e2, e3⟩ := Value.slice.inj hvb'
                  clear e2 hvb'
                  subst e1
                  subst e3
                  rw [HBN.out] at SB
                  have S1 := keep (same_yes lp N lc zs bp bc bs w10 (by omega) SL SB (ZL.out.trans ZB.out.symm))
                  have SB10 := keep SB
                  clear hE hz hb10 SL SB hLN AL
                  go_wp2_with fail
                  refine S1.out.mono ?_
                  rintro e w11 ⟨rfl, hb11⟩
                  have B11 := keep hb11
                  obtain ⟨ap2, c2, vH, hrow, hRS, _, _⟩ := ((Q9.out.below B10.out).below hb11).src
                  rw [HYN.out] at hrow hRS
                  have cL : w11.cell? ⟨w8.heap.size, 0, none⟩ = some (.slice ap2 N c2) := cell_of_row _ _ _ _ _ _ hrow
                  have S2 := keep (same_yes bp N bc bs ap2 c2 ys w11 (by omega) (SB10.out.below entKind_ok hb11) hRS (ZB.out.trans YS.out.symm))
                  clear hb11 hrow hRS S1
                  go_wp2_with fail
                  refine S2.out.mono ?_
                  rintro e w12 ⟨rfl, hb12⟩
                  have BF := keep (((b09.out.trans (B10.out.mono b09.out.size)).trans (B11.out.mono (Nat.le_trans b09.out.size B10.out.size))).trans (hb12.mono (Nat.le_trans (Nat.le_trans b09.out.size B10.out.size) B11.out.size)))
                  clear hb12 S2 cL
                  go_wp2
                  go_ret
                  exact ⟨rfl, BF.out⟩
                · have jl1 : ¬ (k2 : Int) < (m : Int) := by omega
                  have hkk : k2 = k := by omega
                  have YS : Hid (ys.map (·.e) = ents ns) := by show _ = _; rw [hQ.out.2.1, hkk, ← SAME.out]
                  have hYN : ys.length = N := by have := congrArg List.length YS.out; rw [List.length_map, ents_length, HN.out] at this; exact this
                  have HYN := keep hYN
                  have b89 := keep hQ.out.2.2.2
                  have M9 := keep (M8.out.below b89.out)
                  have E9 := keep (EB8.out.below b89.out)
                  have Q9 := keep hQ.out.1
                  have b09 := keep (b08.out.trans (b89.out.mono b08.out.size))
                  have AL := keep (all_mem l ns wr M9.out.mem (by rw [HN.out]; omega))
                  clear hQ hkk hYN M8 EB8 b08 b89 hlt
                  go_wp2_with fail
                  refine AL.out.mono ?_
                  rintro e w10 ⟨vl, zs, rfl, hE, hz, hb10⟩
                  clear jl1 hh1 hk2 hk260 hm
                  have ZL : Hid (zs.map (·.e) = ents ns) := hz
                  have hLN : zs.length = N := by have := congrArg List.length ZL.out; rw [List.length_map, ents_length, HN.out] at this; exact this
                  obtain ⟨lp, lc, hvl, SL, _⟩ := RSrc.own entKind_ok hE.row (fun z hz => (hE.each z hz).held)
                  subst hvl
                  rw [hLN] at SL ⊢
                  have B10 := keep hb10
                  have E10 := keep (E9.out.below hb10)
                  obtain ⟨bp', bc', hvb', SB, _⟩ := RSrc.own entKind_ok E10.out.row (fun z hz => (E10.out.each z hz).held)
                  obtain ⟨e1, e2, e3⟩ := Value.slice.inj hvb'
                  clear e2 hvb'
                  subst e1
                  subst e3
                  rw [HBN.out] at SB
                  have S1 := keep (same_yes lp N lc zs bp bc bs w10 (by omega) SL SB (ZL.out.trans ZB.out.symm))
                  have SB10 := keep SB
                  clear hE hz hb10 SL SB hLN AL
                  go_wp2_with fail
                  refine S1.out.mono ?_
                  rintro e w11 ⟨rfl, hb11⟩
                  have B11 := keep hb11
                  obtain ⟨ap2, c2, vH, hrow, hRS, _, _⟩ := ((Q9.out.below B10.out).below hb11).src
                  rw [HYN.out] at hrow hRS
                  have cL : w11.cell? ⟨w8.heap.size, 0, none⟩ = some (.slice ap2 N c2) := cell_of_row _ _ _ _ _ _ hrow
                  have S2 := keep (same_yes bp N bc bs ap2 c2 ys w11 (by omega) (SB10.out.below entKind_ok hb11) hRS (ZB.out.trans YS.out.symm))
                  clear hb11 hrow hRS S1
                  go_wp2_with fail
                  refine S2.out.mono ?_
                  rintro e w12 ⟨rfl, hb12⟩
                  have BF := keep (((b09.out.trans (B10.out.mono b09.out.size)).trans (B11.out.mono (Nat.le_trans b09.out.size B10.out.size))).trans (hb12.mono (Nat.le_trans (Nat.le_trans b09.out.size B10.out.size) B11.out.size)))
                  clear hb12 S2 cL
                  go_wp2
                  go_ret
                  exact ⟨rfl, BF.out⟩
end Go.Proofs.Ytjiphmeoofeepaa
