/- The walk of TableParses. -/
import Derived.Test.YtjblicgbdecbcaaGreatZQm
import Derived.Test.YtjblicgbdecbcaaGreatZYn
import Derived.Test.YtjblicgbdecbcaaGreatZYqj
import Derived.Test.YtjblicgbdecbcaaGreatZXm
import Derived.Test.YtjblicgbdecbcaaGreatZQp
import Derived.Deep.Cut
namespace Go.Proofs.YtjblicgbdecbcaaGreat
open Go.RowKit
open Sk (Ent)

/-- What the calls on an answered table tell. -/
structure TAns (w : World) (pv : Value) (L : List Ent) : Prop where
  get : ∀ (w' : World) (kp : Option Addr) (kc : Nat) (key : List UInt8) (s : Int), Below w.heap.size w w' → key.length + 1 ≤ 140737488355328 → Src w' kp key.length kc key →
    Calls Tryz.prog 13 #[pv, .slice kp key.length kc, .int .i64 s] w' fun e w'' => ∃ y : EV, e = .returned (.tuple #[ev y, .bool (verE L key s).isSome]) ∧ y.e = (verE L key s).getD zeroE ∧ entKind.held w'' y ∧ Below w'.heap.size w' w''
  all : ∀ w' : World, Below w.heap.size w w' → Calls Tryz.prog 17 #[pv] w' fun e w'' => ∃ a k zs, e = .returned (.slice a zs.length k) ∧ RSrc entKind w'' a zs.length k zs ∧ zs.map (·.e) = L ∧ Below w'.heap.size w' w''
  scan : ∀ (w' : World) (fp : Option Addr) (fc : Nat) (frm : List UInt8) (tp : Option Addr) (tc : Nat) (to : List UInt8) (s : Int), Below w.heap.size w w' → Src w' fp frm.length fc frm → Src w' tp to.length tc to →
    Calls Tryz.prog 18 #[pv, .slice fp frm.length fc, .slice tp to.length tc, .int .i64 s] w' fun e w'' => ∃ a k zs, e = .returned (.slice a zs.length k) ∧ RSrc entKind w'' a zs.length k zs ∧ zs.map (·.e) = dscan L frm to s ∧ Below w'.heap.size w' w''
  count : ∀ w' : World, Below w.heap.size w w' → Calls Tryz.prog 20 #[pv] w' fun e w'' => e = .returned (.int .i64 (L.length : Int)) ∧ Below w'.heap.size w' w''
  few : L.length ≤ 64
  small : ∀ e ∈ L, e.key.length ≤ 64 ∧ e.val.length ≤ 1024
theorem TabD.ans {w : World} {tb : Nat} {ds : List DE} {L : List Ent} (h : TabD w tb ds L) : TAns w (.pointer (some ⟨tb, 0, none⟩)) L := by
  have h64 := (Tq.tok_len h.ok).2
  refine ⟨fun w' kp kc key s hb hk hs => ?_, fun w' hb => ?_, fun w' fp fc frm tp tc to s hb hf ht => ?_, fun w' hb => ?_, h64, fun e he => ?_⟩
  · refine (get_tab (h.below hb) kp kc key s hk hs (Below.refl _ _)).mono ?_
    rintro e w'' ⟨y, h1, h2, h3, h4⟩
    exact ⟨y, h1, h2, h3.held, h4⟩
  · refine (all_done tb ds _ w' (h.below hb).done h.few h.small (by rw [h.evs_len]; omega)).mono ?_
    rintro e w'' ⟨v, rfl, zs, hE, hz, hb'⟩
    obtain ⟨a, k, rfl, hR, _⟩ := RSrc.own entKind_ok hE.row (fun y hy => (hE.each y hy).held)
    exact ⟨a, k, zs, rfl, hR, by rw [hz, h.ents], hb'⟩
  · refine (scan_done tb ds _ fp fc frm tp tc to s w' (h.below hb).done h.few h.small (by rw [h.evs_len]; omega) (by rw [h.ents]; exact tok_ordL h.ok) hf ht).mono ?_
    rintro e w'' ⟨v, rfl, zs, hE, hz, hb'⟩
    obtain ⟨a, k, rfl, hR, _⟩ := RSrc.own entKind_ok hE.row (fun y hy => (hE.each y hy).held)
    exact ⟨a, k, zs, rfl, hR, by rw [hz, h.ents], hb'⟩
  · have h1 := count_done tb ds _ w' (h.below hb).done h.few (fun d hd => (h.small d hd).1) (by rw [h.evs_len]; omega)
    rw [h.evs_len] at h1
    exact h1
  · have := Bq.may_bounds (Tq.tok_may h.ok e he)
    exact ⟨this.2.1, this.2.2.2.2⟩
theorem nil_src (w : World) : RSrc entKind w none 0 0 [] := RSrc.empty (fun _ => rfl)
theorem nil_ans (w : World) : TAns w (.pointer none) [] := by
  refine ⟨fun w' kp kc key s hb hk hs => ?_, fun w' hb => ?_, fun w' fp fc frm tp tc to s hb hf ht => ?_, fun w' hb => ?_, by decide, fun e he => by cases he⟩
  · refine (nget_any kp kc key.length s w').mono ?_
    rintro e w'' ⟨rfl, hb'⟩
    exact ⟨evZ, rfl, rfl, ⟨src_nil _, src_nil _⟩, hb'⟩
  · refine (nall_any w').mono ?_
    rintro e w'' ⟨rfl, hb'⟩
    exact ⟨none, 0, [], rfl, nil_src _, rfl, hb'⟩
  · refine (nscan_any fp frm.length fc tp to.length tc s w').mono ?_
    rintro e w'' ⟨rfl, hb'⟩
    exact ⟨none, 0, [], rfl, nil_src _, rfl, hb'⟩
  · exact ncount_any w'
theorem TParsed.ans {w w' : World} {b : List UInt8} {e : Ending} (h : TParsed w b e w') : ∃ (pv : Value) (E : Int) (L : List Ent), e = .returned (.tuple #[pv, .int .i64 E]) ∧ Below w.heap.size w w' ∧ TAns w' pv L ∧
    ((E = 0 ∧ (∃ tb, pv = .pointer (some ⟨tb, 0, none⟩)) ∧ Tq.tparse b = some L) ∨ (E = 2 ∧ pv = .pointer none ∧ Tq.tparse b = none ∧ L = [])) := by
  rcases h.cases with ⟨L, tb, ds, hp, rfl, hD, hb⟩ | ⟨hp, rfl, hb⟩
  · exact ⟨_, 0, L, rfl, hb, hD.ans, .inl ⟨rfl, ⟨tb, rfl⟩, hp⟩⟩
  · exact ⟨_, 2, [], rfl, hb, nil_ans w', .inr ⟨rfl, rfl, hp, rfl⟩⟩
theorem RParsed.ans {w w' : World} {b : List UInt8} {e : Ending} (h : RParsed w b e w') : ∃ (al : Option Addr) (cl : Nat) (ys : List EV) (E : Int), e = .returned (.tuple #[.slice al ys.length cl, .int .i64 E]) ∧ RSrc entKind w' al ys.length cl ys ∧ Below w.heap.size w w' ∧
    ((E = 0 ∧ Tq.tparse b = some (ys.map (·.e))) ∨ (E = 2 ∧ Tq.tparse b = none ∧ ys = [])) := by
  rcases h with ⟨L, ao, c, ys, hp, rfl, hs, he, hb⟩ | ⟨hp, rfl, hb⟩
  · exact ⟨ao, c, ys, 0, rfl, hs, hb, .inl ⟨rfl, by rw [he]; exact hp⟩⟩
  · exact ⟨none, 0, [], 2, rfl, nil_src _, hb, .inr ⟨rfl, hp, rfl⟩⟩
set_option maxHeartbeats 2000000 in
set_option maxRecDepth 100000 in
theorem parses_walk (ao : Option Addr) (m c : Nat) (b : List UInt8) (kp : Option Addr) (K kc : Nat) (key : List UInt8) (tp : Option Addr) (O tc : Nat) (to : List UInt8) (s : Int) (w : World) (hm : m ≤ 140737488351232) (hs : Src w ao m c b) (hK : K ≤ 140737488351232) (hk : Src w kp K kc key) (hO : O ≤ 140737488351232) (ht : Src w tp O tc to) :
    Calls Tryz.prog 4 #[.slice ao m c, .slice kp K kc, .slice tp O tc, .int .i64 s] w fun e w' => e = .returned (.bool true) ∧ Below w.heap.size w w' := by
  have hkl := hk.len
  have htl := ht.len
  subst hkl
  subst htl
  have HS := keep hs
  have HK := keep hk
  have HT := keep ht
  have AW := keep (awake_any w)
  clear hs hk ht
  obtain ⟨KL, hKL⟩ : ∃ KL, key.length = KL := ⟨_, rfl⟩
  obtain ⟨TL, hTL⟩ : ∃ TL, to.length = TL := ⟨_, rfl⟩
  have HKL := keep hKL
  have HTL := keep hTL
  rw [hKL] at hK ⊢
  rw [hTL] at hO ⊢
  clear hKL hTL
  go_enter Tryz.func4, Tryz.ntmps4
  go_wp2_with fail
  refine AW.out.mono ?_
  rintro e w1 ⟨rfl, hb1⟩
  have B1 := keep hb1
  have PA := keep (tparse_any ao m c b w1 (by omega) (HS.out.below hb1))
  clear hb1 AW
  go_wp2_with fail
  refine PA.out.mono ?_
  intro e w2 hP
  obtain ⟨pv, E, L, rfl, hb2, hA, hc⟩ := hP.ans
  have B2 := keep (B1.out.trans (hb2.mono B1.out.size))
  have AN := keep hA
  have HC := keep hc
  have PR := keep (rtparse_any ao m c b w2 (by omega) (HS.out.below B2.out))
  clear hP hb2 hA hc PA
  go_wp2_with fail
  refine PR.out.mono ?_
  intro e w3 hR
  obtain ⟨al, cl, ys, E2, rfl, hs3, hb3, hc3⟩ := hR.ans
  have hEE : E2 = E ∧ ys.map (·.e) = L := by
    rcases HC.out with ⟨h1, _, h2⟩ | ⟨h1, _, h2, h4⟩ <;> rcases hc3 with ⟨h5, h6⟩ | ⟨h5, h6, h7⟩
    · rw [h2] at h6; cases h6; exact ⟨by rw [h1, h5], rfl⟩
    · rw [h2] at h6; cases h6
    · rw [h2] at h6; cases h6
    · exact ⟨by rw [h1, h5], by rw [h7, h4]; rfl⟩
  obtain ⟨rfl, hL⟩ := hEE
  have HL := keep hL
  have S3 := keep hs3
  have B3 := keep (B2.out.trans (hb3.mono B2.out.size))
  have D3 := keep hb3
  have hnl : ys.length = L.length := by rw [← hL, List.length_map]
  obtain ⟨n, hn⟩ : ∃ n, L.length = n := ⟨_, rfl⟩
  have HN := keep hn
  rw [hnl, hn] at S3 ⊢
  have hn64 : n ≤ 64 := by rw [← hn]; exact AN.out.few
  clear hR hs3 hb3 hc3 hL hnl hn PR
  go_upto_region 4 with fail
  refine region_share (fun a a' w' => (∃ v29 v30 v31 v32 v33 v34 v35 v36 v37 v38 v39 v40 v41 : Value, a' = sets a [(29, v29), (30, v30), (31, v31), (32, v32), (33, v33), (34, v34), (35, v35), (36, v36), (37, v37), (38, v38), (39, v39), (40, v40), (41, v41), (42, .bool false)]) ∧ w' = w3) ?_ ?_
  · rcases HC.out with ⟨h1, ⟨tb, h2⟩, _⟩ | ⟨h1, h2, _, _⟩
    · subst h1
      subst h2
      go_wp2
      exact ⟨⟨_, _, _, _, _, _, _, _, _, _, _, _, _, (by simp only [sets, Act.put, List.setIfInBounds_toArray, List.set_cons_zero, List.set_cons_succ]; all_goals rfl)⟩, rfl⟩
    · subst h1
      subst h2
      go_wp2
      exact ⟨⟨_, _, _, _, _, _, _, _, _, _, _, _, _, (by simp only [sets, Act.put, List.setIfInBounds_toArray, List.set_cons_zero, List.set_cons_succ]; all_goals rfl)⟩, rfl⟩
  rintro a' w4 ⟨⟨v29, v30, v31, v32, v33, v34, v35, v36, v37, v38, v39, v40, v41, rfl⟩, hw4⟩
  have hw5 := hw4.symm
  subst hw5
  clear hw4
  simp only [sets, Act.put, List.setIfInBounds_toArray, List.set_cons_zero, List.set_cons_succ]
  have GE := keep (AN.out.get w3 kp kc key s D3.out (by have := HKL.out; omega) (HK.out.below B3.out))
  rw [HKL.out] at GE
  obtain ⟨b0, hb0⟩ : ∃ b0, (verE L key s).isSome = b0 := ⟨_, rfl⟩
  have HB0 := keep hb0
  rw [hb0] at GE
  clear hb0
  go_wp2_with fail
  refine GE.out.mono ?_
  rintro e w5 ⟨y, rfl, hye, hyh, hb5⟩
  have YE := keep hye
  have YH := keep hyh
  have b5 := keep hb5
  obtain ⟨ykp, ykc, yvp, yvc, ⟨ykey, yseq, ygone, yval⟩⟩ := y
  unfold ev
  simp only
  obtain ⟨W6, hW6⟩ : ∃ W6, w5.alloc (.cells #[.slice ykp ykey.length ykc, .int .i64 yseq, .bool ygone, .slice yvp yval.length yvc] 37) = W6 := ⟨_, rfl⟩
  have a6 : Hid (Below w5.heap.size w5 W6) := by rw [← hW6]; exact (Below.refl _ _).alloc (Nat.le_refl _) _
  have g6 : Hid (W6.heap[w5.heap.size]? = some (.cells #[.slice ykp ykey.length ykc, .int .i64 yseq, .bool ygone, .slice yvp yval.length yvc] 37)) := by rw [← hW6]; exact heap_alloc_new w5 _
  have b6 := keep (b5.out.trans (a6.out.mono b5.out.size))
  have VE := keep (rversion_any al n cl ys kp kc key s W6 (S3.out.below entKind_ok b6.out) (fun y hy => by
    have h1 : y.e ∈ L := by rw [← HL.out]; exact List.mem_map_of_mem hy
    have := AN.out.small _ h1
    omega) (by omega) ((HK.out.below B3.out).below b6.out))
  rw [HL.out, HKL.out, HB0.out] at VE
  clear hye hyh hb5 GE
  go_wp2_with fail
  refine VE.out.mono ?_
  rintro e w7 ⟨z, rfl, hze, hzo, hb7⟩
  have ZE := keep hze
  have ZH := keep hzo.held
  have b7 := keep hb7
  obtain ⟨zkp, zkc, zvp, zvc, ⟨zkey, zseq, zgone, zval⟩⟩ := z
  unfold ev
  simp only
  obtain ⟨W8, hW8⟩ : ∃ W8, w7.alloc (.cells #[.slice zkp zkey.length zkc, .int .i64 zseq, .bool zgone, .slice zvp zval.length zvc] 37) = W8 := ⟨_, rfl⟩
  have a8 : Hid (Below w7.heap.size w7 W8) := by rw [← hW8]; exact (Below.refl _ _).alloc (Nat.le_refl _) _
  have g8 : Hid (W8.heap[w7.heap.size]? = some (.cells #[.slice zkp zkey.length zkc, .int .i64 zseq, .bool zgone, .slice zvp zval.length zvc] 37)) := by rw [← hW8]; exact heap_alloc_new w7 _
  have d8 := keep (b7.out.trans (a8.out.mono b7.out.size))
  have b8 := keep (b6.out.trans (d8.out.mono b6.out.size))
  have G6 : Hid (W8.heap[w5.heap.size]? = some (.cells #[.slice ykp ykey.length ykc, .int .i64 yseq, .bool ygone, .slice yvp yval.length yvc] 37)) := (d8.out.block _ (Array.getElem?_eq_some_iff.1 g6.out).1).trans g6.out
  have y0 : W8.cell? ⟨w5.heap.size, 0, none⟩ = some (.slice ykp ykey.length ykc) := cell_of_row _ _ _ _ _ _ G6.out
  have y1 : W8.cell? ⟨w5.heap.size, 1, none⟩ = some (.int .i64 yseq) := cell_of_row _ _ _ _ _ _ G6.out
  have y2 : W8.cell? ⟨w5.heap.size, 2, none⟩ = some (.bool ygone) := cell_of_row _ _ _ _ _ _ G6.out
  have y3 : W8.cell? ⟨w5.heap.size, 3, none⟩ = some (.slice yvp yval.length yvc) := cell_of_row _ _ _ _ _ _ G6.out
  have z0 : W8.cell? ⟨w7.heap.size, 0, none⟩ = some (.slice zkp zkey.length zkc) := cell_of_row _ _ _ _ _ _ g8.out
  have z1 : W8.cell? ⟨w7.heap.size, 1, none⟩ = some (.int .i64 zseq) := cell_of_row _ _ _ _ _ _ g8.out
  have z2 : W8.cell? ⟨w7.heap.size, 2, none⟩ = some (.bool zgone) := cell_of_row _ _ _ _ _ _ g8.out
  have z3 : W8.cell? ⟨w7.heap.size, 3, none⟩ = some (.slice zvp zval.length zvc) := cell_of_row _ _ _ _ _ _ g8.out
  have SO := keep (sameOne_yes ⟨ykp, ykc, yvp, yvc, ⟨ykey, yseq, ygone, yval⟩⟩ ⟨zkp, zkc, zvp, zvc, ⟨zkey, zseq, zgone, zval⟩⟩ W8 (entKind_ok.below (entKind_ok.below YH.out a6.out) d8.out) (entKind_ok.below ZH.out a8.out) (YE.out.trans ZE.out.symm))
  unfold ev at SO
  simp only at SO
  clear hze hzo hb7 VE
  go_wp2_with fail
  refine SO.out.mono ?_
  rintro e w9 ⟨rfl, hb9⟩
  have b9 := keep (b8.out.trans (hb9.mono b8.out.size))
  have AL := keep (AN.out.all w9 (D3.out.trans (b9.out.mono D3.out.size)))
  clear hb9 SO hW6 hW8 y0 y1 y2 y3 z0 z1 z2 z3
  go_wp2_with fail
  refine AL.out.mono ?_
  rintro e w10 ⟨a10, k10, q10, rfl, hR10, hq10, hb10⟩
  have b10 := keep (b9.out.trans (hb10.mono b9.out.size))
  have hl10 : q10.length = n := by
    have h1 := congrArg List.length hq10
    rw [List.length_map, HN.out] at h1
    exact h1
  rw [hl10] at hR10 ⊢
  have SY := keep (same_yes a10 n k10 q10 al cl ys w10 (by omega) hR10 (S3.out.below entKind_ok b10.out) (by rw [hq10, HL.out]))
  clear hR10 hq10 hb10 hl10 AL
  go_wp2_with fail
  refine SY.out.mono ?_
  rintro e w11 ⟨rfl, hb11⟩
  have b11 := keep (b10.out.trans (hb11.mono b10.out.size))
  have SC := keep (AN.out.scan w11 kp kc key tp tc to s (D3.out.trans (b11.out.mono D3.out.size)) ((HK.out.below B3.out).below b11.out) ((HT.out.below B3.out).below b11.out))
  rw [HKL.out, HTL.out] at SC
  clear hb11 SY
  go_wp2_with fail
  refine SC.out.mono ?_
  rintro e w12 ⟨a12, k12, q12, rfl, hR12, hq12, hb12⟩
  have b12 := keep (b11.out.trans (hb12.mono b11.out.size))
  have RS := keep (rscan_any al n cl ys kp kc key tp tc to s w12 (S3.out.below entKind_ok b12.out) (fun y hy => by
    have h1 : y.e ∈ L := by rw [← HL.out]; exact List.mem_map_of_mem hy
    exact AN.out.small _ h1) (by omega) ((HK.out.below B3.out).below b12.out) ((HT.out.below B3.out).below b12.out) (by have := HKL.out; omega) (by have := HTL.out; omega))
  rw [HL.out, HKL.out, HTL.out] at RS
  have R12 := keep hR12
  have Q12 := keep hq12
  obtain ⟨M, hM⟩ : ∃ M, q12.length = M := ⟨_, rfl⟩
  have HM := keep hM
  have hM64 : M ≤ 64 := by
    have h1 := dscan_len L key to s L.length (Nat.le_refl _)
    rw [List.take_length, ← hq12, List.length_map, hM, HN.out] at h1
    omega
  rw [hM] at R12 ⊢
  clear hR12 hq12 hb12 SC hM
  go_wp2_with fail
  refine RS.out.mono ?_
  rintro e w13 ⟨v13, q13, rfl, hE13, hq13, hb13⟩
  have b13 := keep (b12.out.trans (hb13.mono b12.out.size))
  obtain ⟨a13, k13, rfl, hR13, _⟩ := RSrc.own entKind_ok hE13.row (fun y hy => (hE13.each y hy).held)
  have hl13 : q13.length = M := by
    have h1 := congrArg List.length hq13
    rw [List.length_map, ← Q12.out, List.length_map, HM.out] at h1
    exact h1
  rw [hl13] at hR13 ⊢
  have SY := keep (same_yes a12 M k12 q12 a13 k13 q13 w13 (by omega) (R12.out.below entKind_ok hb13) hR13 (by rw [Q12.out, hq13]))
  clear hE13 hq13 hb13 hR13 hl13 RS
  go_wp2_with fail
  refine SY.out.mono ?_
  rintro e w14 ⟨rfl, hb14⟩
  have b14 := keep (b13.out.trans (hb14.mono b13.out.size))
  have CO := keep (AN.out.count w14 (D3.out.trans (b14.out.mono D3.out.size)))
  rw [HN.out] at CO
  clear hb14 SY
  go_wp2_with fail
  refine CO.out.mono ?_
  rintro e w15 ⟨rfl, hb15⟩
  have b15 := keep (B3.out.trans ((b14.out.trans (hb15.mono b14.out.size)).mono B3.out.size))
  clear hb15 CO
  go_wp2
  go_ret
  exact ⟨rfl, b15.out⟩
end Go.Proofs.YtjblicgbdecbcaaGreat
