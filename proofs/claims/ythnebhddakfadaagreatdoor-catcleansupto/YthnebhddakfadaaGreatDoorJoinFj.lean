/- The walk of cat's Save. -/
/- The walk of cat's Save, whole. -/
import Derived.Test.YthnebhddakfadaaGreatDoorJoinFh
import Derived.Test.YthnebhddakfadaaGreatDoorJoinFr2
import Derived.Test.YthnebhddakfadaaGreatDoorJoinE4
namespace Go.Proofs.YthnebhddakfadaaGreatDoor
open Go.RowKit
open Dk (File Disk)

theorem catGo_a {d : Disk} {v : Ed.Ver} {E : Nat} {D : Disk} (h : rmvAll (fun n => n == tmpN || n == manN v.gen) d = (E, D)) (hE : E ≠ 0) : catGo d v = (E, D) := by
  unfold catGo
  rw [h, if_neg hE]
theorem catGo_b {d d1 : Disk} {v : Ed.Ver} {E : Nat} {D : Disk} (h : rmvAll (fun n => n == tmpN || n == manN v.gen) d = (0, d1)) (h2 : wrt d1 (verF v) = (E, D)) (hE : E ≠ 0) : catGo d v = (E, D) := by
  unfold catGo
  rw [h, if_pos rfl]
  simp only
  rw [h2, if_neg hE]
theorem catGo_c {d d1 d2 : Disk} {v : Ed.Ver} {E : Nat} {D : Disk} (h : rmvAll (fun n => n == tmpN || n == manN v.gen) d = (0, d1)) (h2 : wrt d1 (verF v) = (0, d2)) (h3 : Dk.raw d2 2 tmpN curN [] = (E, D)) (hE : E ≠ 0) : catGo d v = (E, D) := by
  unfold catGo
  rw [h, if_pos rfl]
  simp only
  rw [h2, if_pos rfl]
  simp only
  rw [h3, if_neg hE]
theorem catGo_d {d d1 d2 d3 : Disk} {v : Ed.Ver} (h : rmvAll (fun n => n == tmpN || n == manN v.gen) d = (0, d1)) (h2 : wrt d1 (verF v) = (0, d2)) (h3 : Dk.raw d2 2 tmpN curN [] = (0, d3)) : catGo d v = rmvAll (fun n => isMan n && !(n == manN v.gen)) d3 := by
  unfold catGo
  rw [h, if_pos rfl]
  simp only
  rw [h2, if_pos rfl]
  simp only
  rw [h3, if_pos rfl]
def saveFs (v : Ed.Ver) (a1 : Option Addr) (c1 : Nat) (a2 : Option Addr) (c2 : Nat) : List WF := [⟨manN v.gen, a1, c1, frame (Ed.verB v)⟩, ⟨tmpN, a2, c2, frame (num (cl v.gen))⟩]
theorem saveFs_pair (v : Ed.Ver) (a1 : Option Addr) (c1 : Nat) (a2 : Option Addr) (c2 : Nat) : (saveFs v a1 c1 a2 c2).map WF.pair = verF v := rfl
/-- The files as written answers them, in memory. -/
theorem saveFs_src {w W : World} {v : Ed.Ver} {g : Nat} {a1 : Option Addr} {c1 : Nat} {a2 : Option Addr} {c2 : Nat} {B : Nat} (hg : w.heap[g]? = some (.cells #[.string ⟨(manN v.gen).toArray⟩, .int .i64 0, .slice a1 (frame (Ed.verB v)).length c1, .string ⟨tmpN.toArray⟩, .int .i64 0, .slice a2 (frame (num (cl v.gen))).length c2] 70 (0, 0))) (hB : B ≤ g)
    (h1 : w.ownsRow B 5 1 (.slice a1 (frame (Ed.verB v)).length c1) (frame (Ed.verB v)).length (bv (frame (Ed.verB v)))) (h2 : w.ownsRow B 5 1 (.slice a2 (frame (num (cl v.gen))).length c2) (frame (num (cl v.gen))).length (bv (frame (num (cl v.gen)))))
    (hk : ∀ k, B ≤ k → k < w.heap.size → W.heap[k]? = w.heap[k]?) : RSrc wfK W (some ⟨g, 0, none⟩) 2 2 (saveFs v a1 c1 a2 c2) := by
  have hgl := (Array.getElem?_eq_some_iff.1 hg).1
  have hg' := (hk g hB hgl).trans hg
  have s1 : Src W a1 (frame (Ed.verB v)).length c1 (frame (Ed.verB v)) := by
    have h3 := own_block (w' := W) h1 (fun k hkk => hk k (h1.lt k hkk).1 (own_size h1 hkk))
    obtain ⟨ao, c, e, h4, _⟩ := Src.of_own h3
    cases e
    exact h4
  have s2 : Src W a2 (frame (num (cl v.gen))).length c2 (frame (num (cl v.gen))) := by
    have h3 := own_block (w' := W) h2 (fun k hkk => hk k (h2.lt k hkk).1 (own_size h2 hkk))
    obtain ⟨ao, c, e, h4, _⟩ := Src.of_own h3
    cases e
    exact h4
  refine ⟨rfl, Nat.le_refl _, (fun e => by cases e), fun ad had j u hu => ?_, fun e he => ?_⟩
  · cases had
    rw [Addr.add_mid, Nat.zero_add, cell_of_row _ _ _ _ _ _ hg']
    have hr : rv wfK (saveFs v a1 c1 a2 c2) = [.string ⟨(manN v.gen).toArray⟩, .int .i64 0, .slice a1 (frame (Ed.verB v)).length c1, .string ⟨tmpN.toArray⟩, .int .i64 0, .slice a2 (frame (num (cl v.gen))).length c2] := rfl
    rw [hr] at hu
    simpa using hu
  · unfold saveFs at he
    rcases List.mem_cons.1 he with rfl | he
    · exact s1
    · rw [List.mem_singleton.1 he]
      exact s2
set_option maxHeartbeats 4000000 in
set_option maxRecDepth 100000 in
theorem save_bad (S : Nat → Prop) (w : World) (b : Nat) (d : Disk) (x : VV) (hM : Mem S w b d) (hx : VV.held w x) (hck : Ed.chk x.v = false) :
    Calls Tryz.prog 20 #[.pointer (some ⟨b, 0, none⟩), x.val] w fun e w' => e = .returned (.int .i64 1) ∧ Below w.heap.size w w' := by
  obtain ⟨p, n, c, gen, next, log, seq, es⟩ := x
  obtain ⟨W1, hW1⟩ : ∃ W1, w.alloc (.cells #[.int .i64 gen, .int .i64 next, .int .i64 log, .int .i64 seq, .slice p n c] 50) = W1 := ⟨_, rfl⟩
  have b1 : Hid (Below w.heap.size w W1) := by rw [← hW1]; exact (Below.refl _ _).alloc (Nat.le_refl _) _
  have g1 : Hid (W1.heap[w.heap.size]? = some (.cells #[.int .i64 gen, .int .i64 next, .int .i64 log, .int .i64 seq, .slice p n c] 50)) := by rw [← hW1]; exact heap_alloc_new w _
  have c0 : W1.cell? ⟨w.heap.size, 0, none⟩ = some (.int .i64 gen) := cell_of_row _ _ _ _ _ _ g1.out
  have c1 : W1.cell? ⟨w.heap.size, 1, none⟩ = some (.int .i64 next) := cell_of_row _ _ _ _ _ _ g1.out
  have c2 : W1.cell? ⟨w.heap.size, 2, none⟩ = some (.int .i64 log) := cell_of_row _ _ _ _ _ _ g1.out
  have c3 : W1.cell? ⟨w.heap.size, 3, none⟩ = some (.int .i64 seq) := cell_of_row _ _ _ _ _ _ g1.out
  have c4 : W1.cell? ⟨w.heap.size, 4, none⟩ = some (.slice p n c) := cell_of_row _ _ _ _ _ _ g1.out
  have WN := keep (written_no ⟨p, n, c, gen, next, log, seq, es⟩ W1 (hx.below b1.out) hck)
  have HM := keep hM
  unfold VV.val at WN ⊢
  simp only at WN ⊢
  clear hx hck hM
  go_enter Tryz.func20, Tryz.ntmps20
  go_wp2_with fail
  refine WN.out.mono ?_
  rintro e w2 ⟨rfl, hb2⟩
  have B2 := keep (b1.out.trans (hb2.mono b1.out.size))
  clear hb2 WN hW1 c0 c1 c2 c3 c4
  go_wp2_with fail
  refine (cnone_mem S b d w2 (HM.out.below B2.out)).mono ?_
  rintro e w3 ⟨rfl, hb3⟩
  have B3 := keep (B2.out.trans (hb3.mono B2.out.size))
  clear hb3
  go_wp2
  go_ret
  exact ⟨rfl, B3.out⟩
end Go.Proofs.YthnebhddakfadaaGreatDoor
namespace Go.Proofs.YthnebhddakfadaaGreatDoor
open Go.RowKit
open Dk (File Disk)

set_option maxHeartbeats 4000000 in
set_option maxRecDepth 100000 in
theorem save_yes (S : Nat → Prop) (w : World) (b : Nat) (d : Disk) (x : VV) (hM : Mem S w b d) (hx : VV.held w x) (hck : Ed.chk x.v = true) (hG : ∀ w', Kept (Go.Proofs.YthnebhddakfadaaGreatDoor.mine S b) w w' → Gl w') (hdn : d.done ≤ 4611670000000000000) :
    Calls Tryz.prog 20 #[.pointer (some ⟨b, 0, none⟩), x.val] w fun e w' => ∃ S', e = .returned (.int .i64 ((catSave d x.v).1 : Int)) ∧ Own (Go.Proofs.YthnebhddakfadaaGreatDoor.mine S b) w S' w' b (catSave d x.v).2 := by
  obtain ⟨p, n, c, gen, next, log, seq, es⟩ := x
  have OS := keep (Own.start hM)
  obtain ⟨W1, hW1⟩ : ∃ W1, w.alloc (.cells #[.int .i64 gen, .int .i64 next, .int .i64 log, .int .i64 seq, .slice p n c] 50) = W1 := ⟨_, rfl⟩
  have b1 : Hid (Below w.heap.size w W1) := by rw [← hW1]; exact (Below.refl _ _).alloc (Nat.le_refl _) _
  have g1 : Hid (W1.heap[w.heap.size]? = some (.cells #[.int .i64 gen, .int .i64 next, .int .i64 log, .int .i64 seq, .slice p n c] 50)) := by rw [← hW1]; exact heap_alloc_new w _
  have c0 : W1.cell? ⟨w.heap.size, 0, none⟩ = some (.int .i64 gen) := cell_of_row _ _ _ _ _ _ g1.out
  have c1 : W1.cell? ⟨w.heap.size, 1, none⟩ = some (.int .i64 next) := cell_of_row _ _ _ _ _ _ g1.out
  have c2 : W1.cell? ⟨w.heap.size, 2, none⟩ = some (.int .i64 log) := cell_of_row _ _ _ _ _ _ g1.out
  have c3 : W1.cell? ⟨w.heap.size, 3, none⟩ = some (.int .i64 seq) := cell_of_row _ _ _ _ _ _ g1.out
  have c4 : W1.cell? ⟨w.heap.size, 4, none⟩ = some (.slice p n c) := cell_of_row _ _ _ _ _ _ g1.out
  have HB : Hid (∀ w', Below w.heap.size w w' → Gl w' ∧ Mem S w' b d ∧ Own (Go.Proofs.YthnebhddakfadaaGreatDoor.mine S b) w S w' b d) := fun w' hb => ⟨hG w' (Kept.of_below hb), hM.below hb, OS.out.next hb⟩
  have HG := keep hG
  have WN := keep (written_yes ⟨p, n, c, gen, next, log, seq, es⟩ W1 (hx.below b1.out) hck (HB.out _ b1.out).1)
  have HSZ : Hid ((∀ g, Go.Proofs.YthnebhddakfadaaGreatDoor.mine S b g → g < w.heap.size)) := fun g hg => by
    rcases hg with hg | hg
    · exact hM.lt.1 g hg
    · rw [hg]; exact hM.lt.2.1
  have CAP : Hid (d.cap ≤ 1099511627776) := by
    obtain ⟨_, _, _, h2⟩ := hM
    exact h2.capb
  have GD := keep hM.good
  have DN := keep hdn
  have SEG := keep (chk_seg hck)
  have SH := keep (ver_short hck)
  obtain ⟨V, hV⟩ : ∃ V, VV.v ⟨p, n, c, gen, next, log, seq, es⟩ = V := ⟨_, rfl⟩
  have HGE : Hid (V.gen = gen) := by show _ = _; rw [← hV]; rfl
  rw [hV] at hck WN SEG SH ⊢
  have HCK := keep hck
  unfold VV.val at WN ⊢
  simp only at WN ⊢
  clear hx hck hM hG hdn hV
  go_enter Tryz.func20, Tryz.ntmps20
  go_wp2_with fail
  refine WN.out.mono ?_
  rintro e w2 ⟨⟨g, a1, k1, a2, k2, rfl, hgw, hg2, ho1, ho2⟩, hb2⟩
  have B2 := keep (b1.out.trans (hb2.mono b1.out.size))
  have G2 := keep ((hb2.block _ (Array.getElem?_eq_some_iff.1 g1.out).1).trans g1.out)
  have FS : Hid (∀ W, (∀ k, w.heap.size ≤ k → k < w2.heap.size → W.heap[k]? = w2.heap[k]?) → RSrc wfK W (some ⟨g, 0, none⟩) 2 2 (saveFs V a1 k1 a2 k2)) := fun W hk => saveFs_src (B := w.heap.size) hg2 (Nat.le_trans b1.out.size hgw) (own_base ho1 (fun q hq => Nat.le_trans b1.out.size (ho1.lt q hq).1)) (own_base ho2 (fun q hq => Nat.le_trans b1.out.size (ho2.lt q hq).1)) hk
  have CG : Hid (∀ w', Below w2.heap.size w2 w' → w'.cell? ⟨w.heap.size, 0, none⟩ = some (.int .i64 gen)) := fun w' hb => below_cell hb (cell_of_row _ _ _ _ _ _ G2.out)
  have UP : Hid (∀ w', Below w2.heap.size w2 w' → Below w.heap.size w w') := fun w' hb => B2.out.trans (hb.mono B2.out.size)
  clear hb2 WN hW1 c0 c1 c2 c3 c4 hgw hg2 ho1 ho2
  go_wp2_with fail
  refine (cnone_mem S b d w2 (HB.out _ B2.out).2.1).mono ?_
  rintro e w3 ⟨rfl, hb3⟩
  have L3 := keep hb3
  have d0 := CG.out w3 hb3
  clear hb3
  by_cases h0 : gen = 0
  · have e1 : catSave d V = (1, d) := by unfold catSave; rw [if_pos (.inr (by rw [HGE.out]; exact h0))]
    have HE1 := keep e1
    have h0' : (gen == 0) = true := by rw [h0]; rfl
    have O3 := keep (HB.out _ (UP.out _ L3.out)).2.2
    clear e1
    go_wp2
    go_ret
    rw [HE1.out]
    first | exact ⟨S, rfl, O3.out⟩ | exact ⟨rfl, S, O3.out⟩
  have h0' : (gen == 0) = false := by rw [beq_eq_false_iff_ne]; exact h0
  have NB : Hid (¬ (Ed.chk V = false ∨ V.gen = 0)) := fun e => by
    rcases e with e | e
    · rw [HCK.out] at e; cases e
    · rw [HGE.out] at e; exact h0 e
  go_wp2_with fail
  refine (off_mem S b d w3 (HB.out _ (UP.out _ L3.out)).2.1).mono ?_
  rintro e w4 ⟨rfl, hb4⟩
  have L4 := keep (L3.out.trans (hb4.mono L3.out.size))
  clear hb4 d0
  cases hdk : d.dark with
  | true =>
    have e1 : catSave d V = (5, d) := by unfold catSave; rw [if_neg NB.out, if_pos hdk]
    have HE1 := keep e1
    have O4 := keep (HB.out _ (UP.out _ L4.out)).2.2
    clear e1
    go_wp2
    go_ret
    rw [HE1.out]
    first | exact ⟨S, rfl, O4.out⟩ | exact ⟨rfl, S, O4.out⟩
  | false =>
  go_wp2_with fail
  refine (free_mem S b d w4 (HB.out _ (UP.out _ L4.out)).2.1).mono ?_
  rintro e w5 ⟨rfl, hb5⟩
  have L5 := keep (L4.out.trans (hb5.mono L4.out.size))
  have CC : Hid (costF (verF V) ≤ 3000000) := by
    have h1 := SH.out.2
    have h2 := frame_length (Ed.verB V)
    have h3 := num_le (Ed.verB V).length (by omega)
    have h4 := frame_length (num (cl V.gen))
    have h5 := num9 V.gen
    have h6 := num_le (num (cl V.gen)).length (by omega)
    have h7 := manN_len SEG.out
    show _ ≤ _
    simp only [verF, costF]
    have h8 : tmpN.length = 4 := rfl
    omega
  have CO := keep (catcost_any (some ⟨g, 0, none⟩) 2 2 (saveFs V a1 k1 a2 k2) w5 (FS.out w5 (fun k _ hk => L5.out.block k hk)) (by omega) (by rw [saveFs_pair]; have := CC.out; omega))
  rw [saveFs_pair] at CO
  clear hb5
  go_wp2_with fail
  refine CO.out.mono ?_
  rintro e w6 ⟨rfl, hb6⟩
  have L6 := keep (L5.out.trans (hb6.mono L5.out.size))
  have d0 := CG.out w6 L6.out
  clear hb6 CO
  obtain ⟨Q, hQ⟩ : ∃ Q, costF (verF V) = Q := ⟨_, rfl⟩
  rw [hQ]
  by_cases hf : (d.cap : Int) - (Dk.used d.files : Int) < (Q : Int)
  · have e1 : catSave d V = (4, d) := by unfold catSave; rw [if_neg NB.out, if_neg (by rw [hdk]; decide), hQ, if_pos hf]
    have HE1 := keep e1
    have O6 := keep (HB.out _ (UP.out _ L6.out)).2.2
    clear e1
    go_wp2
    go_ret
    rw [HE1.out]
    first | exact ⟨S, rfl, O6.out⟩ | exact ⟨rfl, S, O6.out⟩
  have e0 : catSave d V = catGo d V := by unfold catSave; rw [if_neg NB.out, if_neg (by rw [hdk]; decide), hQ, if_neg hf]
  have HE0 := keep e0
  have VN := keep (version_any gen w6 (HB.out _ (UP.out _ L6.out)).1.tab)
  have ec : calledL [109, 97, 110, 47] gen = manN V.gen := by
    have h1 := SEG.out
    rw [HGE.out] at h1 ⊢
    unfold calledL
    rw [if_pos h1]
    rfl
  rw [ec] at VN
  clear e0 ec hQ
  go_wp2_with fail
  refine VN.out.mono ?_
  rintro e w7 ⟨rfl, hb7⟩
  have L7 := keep (L6.out.trans (hb7.mono L6.out.size))
  obtain ⟨nm, hnm⟩ : ∃ nm, manN V.gen = nm := ⟨_, rfl⟩
  have HNM := keep hnm
  rw [hnm]
  clear hnm hb7 VN d0
  obtain ⟨W8, hW8⟩ : ∃ W8, w7.alloc (.cells #[.string ⟨nm.toArray⟩] 9) = W8 := ⟨_, rfl⟩
  have L8 : Hid (Below w2.heap.size w2 W8) := by rw [← hW8]; exact L7.out.alloc L7.out.size _
  have q8 : Hid (W8.heap[w7.heap.size]? = some (.cells #[.string ⟨nm.toArray⟩] 9)) := by rw [← hW8]; exact heap_alloc_new w7 _
  have OB : Hid (w.heap.size ≤ w7.heap.size) := (UP.out _ L7.out).size
  have M8 := keep (HB.out _ (UP.out _ L8.out)).2.1
  have O8 := keep (HB.out _ (UP.out _ L8.out)).2.2
  -- what stays, whatever the disk turns from here on
  have KB : Hid (∀ W', Kept (Go.Proofs.YthnebhddakfadaaGreatDoor.mine S b) W8 W' → W'.cell? ⟨w7.heap.size, 0, none⟩ = some (.string ⟨nm.toArray⟩) ∧ RSrc wfK W' (some ⟨g, 0, none⟩) 2 2 (saveFs V a1 k1 a2 k2)) := fun W' hk => by
    have h1 : ∀ k, w.heap.size ≤ k → k < W8.heap.size → W'.heap[k]? = W8.heap[k]? := fun k hk1 hk2 => hk.block k hk2 (fun e => by have := HSZ.out k e; omega)
    refine ⟨cell_of_row _ _ _ _ _ _ ((h1 _ OB.out (Array.getElem?_eq_some_iff.1 q8.out).1).trans q8.out), FS.out W' (fun k hk1 hk2 => (h1 k hk1 (Nat.lt_of_lt_of_le hk2 L8.out.size)).trans (L8.out.block k hk2))⟩
  have R1 := keep (remove_one S W8 b d w7.heap.size (fun n => n == tmpN || n == manN V.gen) M8.out (by have := DN.out; omega) (fun n W _ hk => by
    refine (save1_any n nm w7.heap.size W (KB.out W hk).1).mono ?_
    rintro e W' ⟨rfl, rfl⟩
    rw [HNM.out]
    exact ⟨rfl, Below.refl _ _⟩))
  have F1 := keep (rmvAll_far (fun n => n == tmpN || n == manN V.gen) GD.out)
  clear L3 L4 L5 L6
  go_wp2_with fail
  refine R1.out.mono ?_
  rintro e w9 ⟨S9, rfl, hO9⟩
  have P9 := keep hO9
  obtain ⟨X1, hX1⟩ : ∃ X, rmvAll (fun n => n == tmpN || n == manN V.gen) d = X := ⟨_, rfl⟩
  rw [hX1] at P9 F1 ⊢
  have HX1 := keep hX1
  obtain ⟨E1, d1⟩ := X1
  simp only at P9 F1 ⊢
  clear hO9 hX1 R1
  by_cases hE1 : E1 = 0
  case neg =>
    have z1 : ((E1 : Int) == 0) = false := by rw [beq_eq_false_iff_ne]; omega
    have HCG := keep (HE0.out.trans (catGo_a HX1.out hE1))
    have OO := keep (O8.out.then P9.out)
    clear hE1
    go_wp2
    go_ret
    rw [HCG.out]
    first | exact ⟨S9, rfl, OO.out⟩ | exact ⟨rfl, S9, OO.out⟩
  subst hE1
  have WR := keep (write_own S9 w9 b d1 (some ⟨g, 0, none⟩) 2 2 (saveFs V a1 k1 a2 k2) P9.out.mem (fun W hk => (KB.out W (P9.out.bel.trans' hk (fun q hl hq => by
      rcases (P9.out.mines q hq).1 with h3 | h3
      · exact h3
      · omega))).2) (by omega) (fun e he => by
    have h1 := SH.out.2
    have h2 := frame_length (Ed.verB V)
    have h3 := num_le (Ed.verB V).length (by omega)
    have h4 := frame_length (num (cl V.gen))
    have h5 := num9 V.gen
    have h6 := num_le (num (cl V.gen)).length (by omega)
    unfold saveFs at he
    rcases List.mem_cons.1 he with rfl | he
    · exact ⟨manN_named SEG.out, by show (frame (Ed.verB V)).length ≤ _; omega⟩
    · rw [List.mem_singleton.1 he]
      exact ⟨rfl, by show (frame (num (cl V.gen))).length ≤ _; omega⟩) (by have h1 := F1.out.done; have h2 := DN.out; have h3 := CAP.out; omega))
  rw [saveFs_pair] at WR
  have F2 := keep (wrt_far (v := V) F1.out.good)
  go_wp2_with fail
  refine WR.out.mono ?_
  rintro e w10 ⟨S10, rfl, hO10⟩
  have P10 := keep (P9.out.then hO10)
  obtain ⟨X2, hX2⟩ : ∃ X, wrt d1 (verF V) = X := ⟨_, rfl⟩
  rw [hX2] at P10 F2 ⊢
  have HX2 := keep hX2
  obtain ⟨E2, d2⟩ := X2
  simp only at P10 F2 ⊢
  clear hO10 hX2 WR
  by_cases hE2 : E2 = 0
  case neg =>
    have z1 : ((E2 : Int) == 0) = false := by rw [beq_eq_false_iff_ne]; omega
    have HCG := keep (HE0.out.trans (catGo_b HX1.out HX2.out hE2))
    have OO := keep (O8.out.then P10.out)
    clear hE2
    go_wp2
    go_ret
    rw [HCG.out]
    first | exact ⟨S10, rfl, OO.out⟩ | exact ⟨rfl, S10, OO.out⟩
  subst hE2
  have D2 : Hid (d2.done ≤ 4611675000000000000) := by
    have h1 := SH.out.2
    have h2 := frame_length (Ed.verB V)
    have h3 := num_le (Ed.verB V).length (by omega)
    have h4 := frame_length (num (cl V.gen))
    have h5 := num9 V.gen
    have h6 := num_le (num (cl V.gen)).length (by omega)
    have h7 := F1.out.done
    have h8 := F2.out.done
    have h9 := DN.out
    have h10 := CAP.out
    show _ ≤ _
    omega
  have RN := keep (rename_raw S10 b d2 [99, 117, 114, 126] [99, 117, 114] w10 P10.out.mem (by have := D2.out; omega) [])
  have F3 := keep (raw_far F2.out.good 2 tmpN curN [])
  go_wp2_with fail
  refine RN.out.mono ?_
  rintro e w11 hr
  obtain ⟨rfl, hO11⟩ := P10.out.raw hr
  have P11 := keep hO11
  have eX : Dk.raw d2 2 [99, 117, 114, 126] [99, 117, 114] [] = Dk.raw d2 2 tmpN curN [] := rfl
  rw [eX] at P11 ⊢
  obtain ⟨X3, hX3⟩ : ∃ X, Dk.raw d2 2 tmpN curN [] = X := ⟨_, rfl⟩
  rw [hX3] at P11 F3 ⊢
  have HX3 := keep hX3
  obtain ⟨E3, d3⟩ := X3
  simp only at P11 F3 ⊢
  clear hO11 hr hX3 RN eX
  by_cases hE3 : E3 = 0
  case neg =>
    have z1 : ((E3 : Int) == 0) = false := by rw [beq_eq_false_iff_ne]; omega
    have HCG := keep (HE0.out.trans (catGo_c HX1.out HX2.out HX3.out hE3))
    have OO := keep (O8.out.then P11.out)
    clear hE3
    go_wp2
    go_ret
    rw [HCG.out]
    first | exact ⟨_, rfl, OO.out⟩ | exact ⟨rfl, _, OO.out⟩
  subst hE3
  have HCG := keep (HE0.out.trans (catGo_d HX1.out HX2.out HX3.out))
  have UPK : Hid (∀ W, Kept (Go.Proofs.YthnebhddakfadaaGreatDoor.mine (more S10 w10 w11) b) w11 W → Kept (Go.Proofs.YthnebhddakfadaaGreatDoor.mine S b) W8 W) := fun W hk => P11.out.bel.trans' hk (fun q hl hq => by
    rcases (P11.out.mines q hq).1 with h3 | h3
    · exact h3
    · omega)
  have R2 := keep (remove_two (more S10 w10 w11) w11 b d3 w7.heap.size (fun n => isMan n && !(n == manN V.gen)) P11.out.mem (by have h1 := F3.out.done; have h2 := D2.out; omega) (fun n W hn hk => by
    have h1 := UPK.out W hk
    have hg : Gl W := HG.out W (O8.out.bel.trans' h1 (fun q hl hq => hq))
    have hnl := named_len hn
    refine (save2_any n nm w7.heap.size W (KB.out W h1).1 hg (fun e => by rw [e] at hnl; simp at hnl) (by omega)).mono ?_
    rintro e W' ⟨rfl, hb⟩
    rw [HNM.out]
    exact ⟨rfl, hb⟩))
  go_wp2_with fail
  refine R2.out.mono ?_
  rintro e w12 ⟨S12, rfl, hO12⟩
  have OO := keep (O8.out.then (P11.out.then hO12))
  clear hO12 R2
  go_wp2
  go_ret
  rw [HCG.out]
  first | exact ⟨_, rfl, OO.out⟩ | exact ⟨rfl, _, OO.out⟩
theorem save_own (S : Nat → Prop) (w : World) (b : Nat) (d : Disk) (x : VV) (hM : Mem S w b d) (hx : VV.held w x) (hG : ∀ w', Kept (Go.Proofs.YthnebhddakfadaaGreatDoor.mine S b) w w' → Gl w') (hdn : d.done ≤ 4611670000000000000) :
    Calls Tryz.prog 20 #[.pointer (some ⟨b, 0, none⟩), x.val] w fun e w' => ∃ S', e = .returned (.int .i64 ((catSave d x.v).1 : Int)) ∧ Own (Go.Proofs.YthnebhddakfadaaGreatDoor.mine S b) w S' w' b (catSave d x.v).2 := by
  cases hck : Ed.chk x.v with
  | true => exact save_yes S w b d x hM hx hck hG hdn
  | false =>
    have e1 : catSave d x.v = (1, d) := by unfold catSave; rw [if_pos (.inl hck)]
    rw [e1]
    refine (save_bad S w b d x hM hx hck).mono ?_
    rintro e w' ⟨rfl, hb⟩
    exact ⟨S, rfl, (Own.start hM).next hb⟩
end Go.Proofs.YthnebhddakfadaaGreatDoor
