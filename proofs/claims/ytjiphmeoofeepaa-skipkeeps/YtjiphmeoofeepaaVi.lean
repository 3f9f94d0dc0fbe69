/- The walk of skip's Scan. -/
import Derived.Test.YtjiphmeoofeepaaVh
import Derived.Deep.QuietTactic
import Derived.BigQuiet
namespace Go.Proofs.Ytjiphmeoofeepaa
open Go.RowKit
open Sk (Ent)

/-- The last one's key. -/
def lastKey (l : List Ent) : Option (List UInt8) := l.getLast?.map (·.key)
/-- A scan goes on with these. -/
def scanL (to : List UInt8) (s : Int) : List Ent → List Ent → List Ent
  | out, [] => out
  | out, e :: r => if to ≠ [] ∧ less e.key to = false then out else if e.seq ≤ s ∧ lastKey out ≠ some e.key then scanL to s (out ++ [e]) r else scanL to s out r
def scan (l : List Ent) (from_ to : List UInt8) (s : Int) : List Ent := scanL to s [] (l.drop (Sk.count (fun e => less e.key from_) l))
theorem nodeAt_some {ns : List Nd} {q : Nat} {n : Nd} (h : ns[q]? = some n) : nodeAt ns q = .pointer (some ⟨n.g, 0, none⟩) := by unfold nodeAt; rw [h]
theorem nodeAt_none {ns : List Nd} {q : Nat} (h : ns[q]? = none) : nodeAt ns q = .pointer none := by unfold nodeAt; rw [h]
theorem ents_drop {ns : List Nd} {q : Nat} {n : Nd} (h : ns[q]? = some n) : (ents ns).drop q = n.x.e :: (ents ns).drop (q + 1) := by
  have h1 : (ents ns)[q]? = some n.x.e := by unfold ents; rw [List.getElem?_map, h]; rfl
  obtain ⟨h2, h3⟩ := List.getElem?_eq_some_iff.1 h1
  rw [List.drop_eq_getElem_cons h2, h3]
theorem lastKey_none {l : List Ent} (h : l = []) (k : List UInt8) : lastKey l ≠ some k := by subst h; intro e; cases e
theorem lastKey_snoc (l : List Ent) (z : Ent) : lastKey (l ++ [z]) = some z.key := by unfold lastKey; simp
set_option maxHeartbeats 8000000 in
set_option maxRecDepth 100000 in
theorem scan_mem (b : Nat) (ns : List Nd) (fp : Option Addr) (fc : Nat) (frm : List UInt8) (tp : Option Addr) (tc : Nat) (to : List UInt8) (s : Int) (w : World) (h : SMem w b ns) (hl : ns.length ≤ 1000000) (hfs : Src w fp frm.length fc frm) (hts : Src w tp to.length tc to) :
    Calls Try.prog 12 #[.pointer (some ⟨b, 0, none⟩), .slice fp frm.length fc, .slice tp to.length tc, .int .i64 s] w fun e w' => ∃ v ys, e = .returned v ∧ Ents w.heap.size w' v ys ∧ ys.map (·.e) = scan (ents ns) frm to s ∧ Below w.heap.size w w' := by
  obtain ⟨i0, hi0, hz0, hz1, hz2⟩ := info_parts3 infoE
  obtain ⟨W1, hW1⟩ : ∃ W1, w.alloc (.cells #[.slice fp frm.length fc] 26) = W1 := ⟨_, rfl⟩
  have b1 : Hid (Below w.heap.size w W1) := by rw [← hW1]; exact (Below.refl _ _).alloc (Nat.le_refl _) _
  have FI : Hid (FromIn W1 w.heap.size frm) := ⟨fp, fc, hfs.below b1.out, by rw [← hW1]; exact cell_of_row _ _ _ _ _ _ (heap_alloc_new w _)⟩
  have HM := keep h
  have HTS := keep hts
  have CUT := keep (Sk.cut_count (P := fun e => less e.key frm) (fun a c hg hb => Sk.from_down frm a c hg hb) h.up)
  have FO := keep (first_one w.heap.size b ns (fun e => less e.key frm) (Sk.count (fun e => less e.key frm) (ns.map (·.x.e))) W1 (h.below b1.out).chain h.tall CUT.out (fun w' x hb hh => from_any w.heap.size frm x w' (FI.out.below hb) hh))
  obtain ⟨K, hK⟩ : ∃ K, Sk.count (fun e => less e.key frm) (ns.map (·.x.e)) = K := ⟨_, rfl⟩
  have HK := keep hK
  rw [hK] at FO CUT
  clear h hfs hts hK
  have hKl : K ≤ ns.length := by have := CUT.out.1; simpa using this
  obtain ⟨TL, hTL⟩ : ∃ TL, to.length = TL := ⟨_, rfl⟩
  rw [hTL] at HTS ⊢
  have HTL := keep hTL
  clear hTL
  go_enter Try.func12, Try.ntmps12
  go_wp2_with fail
  refine FO.out.mono ?_
  rintro e w2 ⟨rfl, hb2⟩
  have B2 := keep (b1.out.trans (hb2.mono b1.out.size))
  clear hb2 hW1 FO
  obtain ⟨V, hV⟩ : ∃ V, nodeAt ns K = V := ⟨_, rfl⟩
  rw [hV]
  have HV := keep hV
  clear hV
  go_wp2
  go_loopg [9, 10] (ns.length - K) (fun g v p wr => ∃ (q : Nat) (ys : List EV), g = ns.length - q ∧ q ≤ ns.length ∧ p = nodeAt ns q ∧ Hid (Ents w.heap.size wr v ys ∧ scanL to s (ys.map (·.e)) ((ents ns).drop q) = scan (ents ns) frm to s ∧ Below w.heap.size w wr ∧ ys.length ≤ q))
  case atStart => exact ⟨K, [], rfl, hKl, HV.out.symm, Ents.nil _ _, by unfold scan ents; rw [HK.out]; rfl, B2.out, Nat.zero_le _⟩
  case round =>
    obtain ⟨q, ys, hgk, hq, rfl, hI⟩ := hrel
    have HGK := keep hgk
    have HQ := keep hq
    clear hgk
    cases hx : ns[q]? with
    | none =>
      rw [nodeAt_none hx]
      have HE : Hid ((ents ns).drop q = []) := by
        have := List.getElem?_eq_none_iff.1 hx
        exact List.drop_of_length_le (by unfold ents; simpa using this)
      clear hx hq
      go_wp2
      go_ret
      exact ⟨_, ys, rfl, hI.out.1, by have h1 := hI.out.2.1; rw [HE.out] at h1; exact h1, hI.out.2.2.1⟩
    | some n =>
      rw [nodeAt_some hx]
      have HED := keep (ents_drop hx)
      have M1 := HM.out.below hI.out.2.2.1
      have hent := M1.chain.ents n (List.mem_of_getElem? hx)
      have hsh := M1.short n (List.mem_of_getElem? hx)
      have hlt : q < ns.length := (List.getElem?_eq_some_iff.1 hx).1
      have HLT := keep hlt
      have hyl := hI.out.2.2.2
      have HNX : Hid (∀ w', Below w.heap.size w w' → w'.cell? ⟨n.g, 4, none⟩ = some (nodeAt ns (q + 1))) := fun w' hb => by
        have := (HM.out.below hb).chain.links q n hx 0 (by decide)
        rw [if_pos (HM.out.tall n (List.mem_of_getElem? hx)), nxt_all HM.out.tall] at this
        simpa using this
      obtain ⟨ng, ⟨xkp, xkc, xvp, xvc, ⟨xkey, xseq, xgone, xval⟩⟩, nh⟩ := n
      have q0 : wr.cell? ⟨ng, 0, none⟩ = some (.slice xkp xkey.length xkc) := hent.1 0 _ rfl
      have q1 : wr.cell? ⟨ng, 1, none⟩ = some (.int .i64 xseq) := hent.1 1 _ rfl
      have q2 : wr.cell? ⟨ng, 2, none⟩ = some (.bool xgone) := hent.1 2 _ rfl
      have q3 : wr.cell? ⟨ng, 3, none⟩ = some (.slice xvp xval.length xvc) := hent.1 3 _ rfl
      have hsh1 : xkey.length ≤ 64 := hsh.1
      have hsh2 : xval.length ≤ 1024 := hsh.2
      obtain ⟨W3, hW3⟩ : ∃ W3, wr.alloc (.cells #[.slice xkp xkey.length xkc, .int .i64 xseq, .bool xgone, .slice xvp xval.length xvc] 28) = W3 := ⟨_, rfl⟩
      have g3 : Hid (W3.heap[wr.heap.size]? = some (.cells #[.slice xkp xkey.length xkc, .int .i64 xseq, .bool xgone, .slice xvp xval.length xvc] 28)) := by rw [← hW3]; exact heap_alloc_new wr _
      have B3 : Hid (Below wr.heap.size wr W3) := by rw [← hW3]; exact (Below.refl _ _).alloc (Nat.le_refl _) _
      have c0 : W3.cell? ⟨wr.heap.size, 0, none⟩ = some (.slice xkp xkey.length xkc) := cell_of_row _ _ _ _ _ _ g3.out
      have c1 : W3.cell? ⟨wr.heap.size, 1, none⟩ = some (.int .i64 xseq) := cell_of_row _ _ _ _ _ _ g3.out
      have c2 : W3.cell? ⟨wr.heap.size, 2, none⟩ = some (.bool xgone) := cell_of_row _ _ _ _ _ _ g3.out
      have c3 : W3.cell? ⟨wr.heap.size, 3, none⟩ = some (.slice xvp xval.length xvc) := cell_of_row _ _ _ _ _ _ g3.out
      have HXH : Hid (entKind.held wr ⟨xkp, xkc, xvp, xvc, ⟨xkey, xseq, xgone, xval⟩⟩) := hent.2
      have BLW : Hid (Below w.heap.size w wr) := hI.out.2.2.1
      have BL3 := keep (BLW.out.trans (B3.out.mono BLW.out.size))
      have E3 := keep (hI.out.1.below B3.out)
      simp only
      clear hx hent hsh hq M1 hlt
      simp only at HNX HED
      rcases Nat.eq_zero_or_pos TL with hT | hT
      · subst hT
        have GOON : Hid (¬ (to ≠ [] ∧ less xkey to = false)) := fun e => e.1 (List.length_eq_zero_iff.1 HTL.out)
        rcases List.eq_nil_or_concat ys with hys | ⟨zs, z, hys⟩
        · subst hys
          obtain ⟨ub, uc, hu⟩ : ∃ ub uc, u9 = .slice ub 0 uc := by
            rcases hI.out.1.row.2 with ⟨e, _⟩ | ⟨gg, cap, cur, e, _⟩
            · exact ⟨_, _, e⟩
            · exact ⟨_, _, e⟩
          subst hu
          have OLD : Hid (lastKey (([] : List EV).map (·.e)) ≠ some xkey) := lastKey_none rfl _
          go_wp2_with fail
          go_quiet (fail)
          obtain ⟨W5, hW5⟩ : ∃ W5, W3.drewN nq = W5 := ⟨_, rfl⟩
          rw [hW5]
          have B35 : Hid (Below W3.heap.size W3 W5) := by rw [← hW5]; exact below_drewN (Below.refl _ _) _
          have t0 : W5.cell? ⟨wr.heap.size, 0, none⟩ = some (.slice xkp xkey.length xkc) := below_cell B35.out (cell_of_row _ _ _ _ _ _ g3.out)
          have t1 : W5.cell? ⟨wr.heap.size, 1, none⟩ = some (.int .i64 xseq) := below_cell B35.out (cell_of_row _ _ _ _ _ _ g3.out)
          have t2 : W5.cell? ⟨wr.heap.size, 2, none⟩ = some (.bool xgone) := below_cell B35.out (cell_of_row _ _ _ _ _ _ g3.out)
          have t3 : W5.cell? ⟨wr.heap.size, 3, none⟩ = some (.slice xvp xval.length xvc) := below_cell B35.out (cell_of_row _ _ _ _ _ _ g3.out)
          clear hW5 hW3
          by_cases hsq : xseq ≤ s
          · have TAKE : Hid (xseq ≤ s ∧ lastKey (([] : List EV).map (·.e)) ≠ some xkey) := ⟨hsq, OLD.out⟩
            have CP := keep (copied_any ⟨xkp, xkc, xvp, xvc, ⟨xkey, xseq, xgone, xval⟩⟩ W5 (by simp only; omega) (by simp only; omega) (entKind_ok.below HXH.out (B3.out.trans (B35.out.mono B3.out.size))))
            unfold ev at CP
            simp only at CP
            go_wp2_with fail
            refine CP.out.mono ?_
            rintro e w6 ⟨y, rfl, hye, hyo, hb6⟩
            have HYE : Hid (y.e = ⟨xkey, xseq, xgone, xval⟩) := hye
            have b6 := keep (hb6.alloc hb6.size (.cells (entKind.vals y).toArray 28))
            have BL5 := keep (BL3.out.trans (B35.out.mono BL3.out.size))
            have E6 := keep ((E3.out.below B35.out).below b6.out)
            have O6 := keep ((hyo.base BL5.out.size).block ((Below.refl w6.heap.size w6).alloc (Nat.le_refl _) (.cells (entKind.vals y).toArray 28)))
            have BL6 := keep (BL5.out.trans (b6.out.mono BL5.out.size))
            have rc := keep (rec_cells (k := entKind) w6 28 y)
            have hyl2 : 0 ≤ 1000000 := by have := HQ.out; omega
            obtain ⟨ykp, ykc, yvp, yvc, ⟨ykey, yseq, ygone, yval⟩⟩ := y
            simp only [entKind] at b6 E6 O6 BL6
            simp only
            clear hye hyo hb6 CP q0 q1 q2 q3 t0 t1 t2 t3
            go_wp2_with (first
              | (at_builtin; go_loud (refine wpList_append_rec entKind_ok rfl _ _ 34 28 rfl w.heap.size i0 _ 64 Try.underlying34 hi0 hz0 hz1 hz2 rfl _ 0 [] rfl E6.out.row _ 1 (⟨ykp, ykc, yvp, yvc, ⟨ykey, yseq, ygone, yval⟩⟩ : EV) rfl rc.out (by unfold maxLen; omega) (by omega) (Nat.le_trans BL6.out.size (Nat.le_refl _)) ?_); intro v7 w7 ho7 hg7; have HO7 := keep ho7; have HG7 := keep hg7; have BL7 := keep (BL6.out.grown hg7 BL6.out.size (fun j hj => (E6.out.row.lt j hj).1)); have c7 := HNX.out w7 BL7.out; clear ho7 hg7))
            have E7 := keep (E6.out.more O6.out HO7.out HG7.out)
            go_roundg (ns.length - (q + 1))
            case measure => have := HGK.out; have := HLT.out; omega
            case rel => exact ⟨q + 1, [] ++ [⟨ykp, ykc, yvp, yvc, ⟨ykey, yseq, ygone, yval⟩⟩], rfl, HLT.out, rfl, E7.out, by rw [List.map_append]; have h1 := hI.out.2.1; rw [HED.out] at h1; have h2 : (⟨ykey, yseq, ygone, yval⟩ : Ent) = ⟨xkey, xseq, xgone, xval⟩ := HYE.out; rw [← h1]; simp only [scanL, List.map_cons, List.map_nil]; rw [h2, if_neg GOON.out]; exact (if_pos TAKE.out).symm, BL7.out, by rw [List.length_append, List.length_singleton]; have := hI.out.2.2.2; omega⟩
          · have TAKE : Hid (¬ (xseq ≤ s ∧ lastKey (([] : List EV).map (·.e)) ≠ some xkey)) := fun e => hsq e.1
            have hsq2 : decide (xseq ≤ s) = false := decide_eq_false hsq
            have BL5 := keep (BL3.out.trans (B35.out.mono BL3.out.size))
            have c7 := HNX.out W5 BL5.out
            clear q0 q1 q2 q3 t0 t2 t3
            go_wp2
            go_roundg (ns.length - (q + 1))
            case measure => have := HGK.out; have := HLT.out; omega
            case rel => exact ⟨q + 1, [], rfl, HLT.out, rfl, E3.out.below B35.out, by have h1 := hI.out.2.1; rw [HED.out] at h1; rw [← h1]; simp only [scanL]; rw [if_neg GOON.out, if_neg TAKE.out], BL5.out, by have := hI.out.2.2.2; omega⟩
        · rw [List.concat_eq_append] at hys
          obtain ⟨N1, hN1⟩ : ∃ N1, zs.length = N1 := ⟨_, rfl⟩
          have hyn : ys.length = N1 + 1 := by rw [hys, List.length_append, hN1]; rfl
          obtain ⟨ug, uc, hu⟩ : ∃ ug uc, u9 = .slice (some ⟨ug, 0, none⟩) (N1 + 1) uc := by
            have h1 := hI.out.1.row
            rw [hyn] at h1
            rcases h1.2 with ⟨_, e⟩ | ⟨gg, cap, cur, e, _⟩
            · omega
            · exact ⟨_, _, e⟩
          subst hu
          have hzm : z ∈ ys := by rw [hys]; simp
          have hzo := (E3.out.each z hzm).held
          have zc : W3.cell? ⟨ug, N1 * 4, none⟩ = some (.slice z.kp z.e.key.length z.kc) := by
            have h1 := E3.out.row
            obtain ⟨ax, cx, ex, hr, _⟩ := RSrc.own entKind_ok h1 (fun y hy => (E3.out.each y hy).held)
            obtain ⟨ex1, _, ex3⟩ := Value.slice.inj ex
            subst ex1
            subst ex3
            have h2 := hr.cells _ rfl (N1 * 4) _ ((rv_at entKind_ok 0 (i := N1) (e := z) (by rw [hys, List.getElem?_append_right (by omega), hN1]; simp) (by decide)).trans rfl)
            rwa [Addr.add_mid, Nat.zero_add] at h2
          have HYN := keep hyn
          have HLK : Hid (lastKey (ys.map (·.e)) = some z.e.key) := by show _ = _; rw [hys, List.map_append]; exact lastKey_snoc _ _
          have hn1 : (N1 : Int) ≤ 1000000 := by have := HQ.out; omega
          have hn0 : (0 : Int) ≤ (N1 : Int) := by omega
          have EQ : Hid (∀ n, Calls Try.prog 19 #[.slice z.kp z.e.key.length z.kc, .slice xkp xkey.length xkc] (W3.drewN n) fun e w' => e = .returned (.bool (decide (z.e.key = xkey))) ∧ w' = W3.drewN n) := fun n => equal_any z.kp z.e.key.length z.kc z.e.key xkp xkey.length xkc xkey (W3.drewN n) (hzo.1.below (below_drewN (Below.refl _ _) _)) ((Src.below HXH.out.1 B3.out).below (below_drewN (Below.refl _ _) _))
          clear hys hzm hzo hyn hN1
          obtain ⟨zkp, zkc, zvp, zvc, ⟨zkey, zseq, zgone, zval⟩⟩ := z
          simp only at zc EQ HLK
          by_cases hkk : zkey = xkey
          · rw [decide_eq_true hkk] at EQ
            have OLD : Hid (lastKey (ys.map (·.e)) = some xkey) := by show _ = _; rw [HLK.out, hkk]
            clear hkk
            go_wp2_with fail
            go_quiet ((go_at_call 19; exact Calls.quiet_of_same (EQ.out _)))
            obtain ⟨W5, hW5⟩ : ∃ W5, W3.drewN nq = W5 := ⟨_, rfl⟩
            rw [hW5]
            have B35 : Hid (Below W3.heap.size W3 W5) := by rw [← hW5]; exact below_drewN (Below.refl _ _) _
            have t0 : W5.cell? ⟨wr.heap.size, 0, none⟩ = some (.slice xkp xkey.length xkc) := below_cell B35.out (cell_of_row _ _ _ _ _ _ g3.out)
            have t1 : W5.cell? ⟨wr.heap.size, 1, none⟩ = some (.int .i64 xseq) := below_cell B35.out (cell_of_row _ _ _ _ _ _ g3.out)
            have t2 : W5.cell? ⟨wr.heap.size, 2, none⟩ = some (.bool xgone) := below_cell B35.out (cell_of_row _ _ _ _ _ _ g3.out)
            have t3 : W5.cell? ⟨wr.heap.size, 3, none⟩ = some (.slice xvp xval.length xvc) := below_cell B35.out (cell_of_row _ _ _ _ _ _ g3.out)
            clear hW5 hW3
            have TAKE : Hid (¬ (xseq ≤ s ∧ lastKey (ys.map (·.e)) ≠ some xkey)) := fun e => e.2 OLD.out
            by_cases hsq : xseq ≤ s
            · have BL5 := keep (BL3.out.trans (B35.out.mono BL3.out.size))
              have c7 := HNX.out W5 BL5.out
              clear q0 q1 q2 q3 t0 t2 t3
              go_wp2
              go_roundg (ns.length - (q + 1))
              case measure => have := HGK.out; have := HLT.out; omega
              case rel => exact ⟨q + 1, ys, rfl, HLT.out, rfl, E3.out.below B35.out, by have h1 := hI.out.2.1; rw [HED.out] at h1; rw [← h1]; simp only [scanL]; rw [if_neg GOON.out, if_neg TAKE.out], BL5.out, by have := hI.out.2.2.2; omega⟩
            · have hsq2 : decide (xseq ≤ s) = false := decide_eq_false hsq
              have BL5 := keep (BL3.out.trans (B35.out.mono BL3.out.size))
              have c7 := HNX.out W5 BL5.out
              clear q0 q1 q2 q3 t0 t2 t3
              go_wp2
              go_roundg (ns.length - (q + 1))
              case measure => have := HGK.out; have := HLT.out; omega
              case rel => exact ⟨q + 1, ys, rfl, HLT.out, rfl, E3.out.below B35.out, by have h1 := hI.out.2.1; rw [HED.out] at h1; rw [← h1]; simp only [scanL]; rw [if_neg GOON.out, if_neg TAKE.out], BL5.out, by have := hI.out.2.2.2; omega⟩
          · rw [decide_eq_false hkk] at EQ
            have OLD : Hid (lastKey (ys.map (·.e)) ≠ some xkey) := fun e => hkk (by rw [HLK.out] at e; exact Option.some.inj e)
            clear hkk
            go_wp2_with fail
            go_quiet ((go_at_call 19; exact Calls.quiet_of_same (EQ.out _)))
            obtain ⟨W5, hW5⟩ : ∃ W5, W3.drewN nq = W5 := ⟨_, rfl⟩
            rw [hW5]
            have B35 : Hid (Below W3.heap.size W3 W5) := by rw [← hW5]; exact below_drewN (Below.refl _ _) _
            have t0 : W5.cell? ⟨wr.heap.size, 0, none⟩ = some (.slice xkp xkey.length xkc) := below_cell B35.out (cell_of_row _ _ _ _ _ _ g3.out)
            have t1 : W5.cell? ⟨wr.heap.size, 1, none⟩ = some (.int .i64 xseq) := below_cell B35.out (cell_of_row _ _ _ _ _ _ g3.out)
            have t2 : W5.cell? ⟨wr.heap.size, 2, none⟩ = some (.bool xgone) := below_cell B35.out (cell_of_row _ _ _ _ _ _ g3.out)
            have t3 : W5.cell? ⟨wr.heap.size, 3, none⟩ = some (.slice xvp xval.length xvc) := below_cell B35.out (cell_of_row _ _ _ _ _ _ g3.out)
            clear hW5 hW3
            by_cases hsq : xseq ≤ s
            · have TAKE : Hid (xseq ≤ s ∧ lastKey (ys.map (·.e)) ≠ some xkey) := ⟨hsq, OLD.out⟩
              have CP := keep (copied_any ⟨xkp, xkc, xvp, xvc, ⟨xkey, xseq, xgone, xval⟩⟩ W5 (by simp only; omega) (by simp only; omega) (entKind_ok.below HXH.out (B3.out.trans (B35.out.mono B3.out.size))))
              unfold ev at CP
              simp only at CP
              go_wp2_with fail
              refine CP.out.mono ?_
              rintro e w6 ⟨y, rfl, hye, hyo, hb6⟩
              have HYE : Hid (y.e = ⟨xkey, xseq, xgone, xval⟩) := hye
              have b6 := keep (hb6.alloc hb6.size (.cells (entKind.vals y).toArray 28))
              have BL5 := keep (BL3.out.trans (B35.out.mono BL3.out.size))
              have E6 := keep ((E3.out.below B35.out).below b6.out)
              have O6 := keep ((hyo.base BL5.out.size).block ((Below.refl w6.heap.size w6).alloc (Nat.le_refl _) (.cells (entKind.vals y).toArray 28)))
              have BL6 := keep (BL5.out.trans (b6.out.mono BL5.out.size))
              have rc := keep (rec_cells (k := entKind) w6 28 y)
              have hyl2 : ys.length ≤ 1000000 := by have := HQ.out; omega
              obtain ⟨ykp, ykc, yvp, yvc, ⟨ykey, yseq, ygone, yval⟩⟩ := y
              simp only [entKind] at b6 E6 O6 BL6
              simp only
              clear hye hyo hb6 CP q0 q1 q2 q3 t0 t1 t2 t3
              go_wp2_with (first
                | (at_builtin; go_loud (refine wpList_append_rec entKind_ok rfl _ _ 34 28 rfl w.heap.size i0 _ 64 Try.underlying34 hi0 hz0 hz1 hz2 rfl _ ys.length ys rfl E6.out.row _ 1 (⟨ykp, ykc, yvp, yvc, ⟨ykey, yseq, ygone, yval⟩⟩ : EV) rfl rc.out (by unfold maxLen; omega) (by omega) (Nat.le_trans BL6.out.size (Nat.le_refl _)) ?_); intro v7 w7 ho7 hg7; have HO7 := keep ho7; have HG7 := keep hg7; have BL7 := keep (BL6.out.grown hg7 BL6.out.size (fun j hj => (E6.out.row.lt j hj).1)); have c7 := HNX.out w7 BL7.out; clear ho7 hg7))
              have E7 := keep (E6.out.more O6.out HO7.out HG7.out)
              go_roundg (ns.length - (q + 1))
              case measure => have := HGK.out; have := HLT.out; omega
              case rel => exact ⟨q + 1, ys ++ [⟨ykp, ykc, yvp, yvc, ⟨ykey, yseq, ygone, yval⟩⟩], rfl, HLT.out, rfl, E7.out, by rw [List.map_append]; have h1 := hI.out.2.1; rw [HED.out] at h1; have h2 : (⟨ykey, yseq, ygone, yval⟩ : Ent) = ⟨xkey, xseq, xgone, xval⟩ := HYE.out; rw [← h1]; simp only [scanL, List.map_cons, List.map_nil]; rw [h2, if_neg GOON.out]; exact (if_pos TAKE.out).symm, BL7.out, by rw [List.length_append, List.length_singleton]; have := hI.out.2.2.2; omega⟩
            · have TAKE : Hid (¬ (xseq ≤ s ∧ lastKey (ys.map (·.e)) ≠ some xkey)) := fun e => hsq e.1
              have hsq2 : decide (xseq ≤ s) = false := decide_eq_false hsq
              have BL5 := keep (BL3.out.trans (B35.out.mono BL3.out.size))
              have c7 := HNX.out W5 BL5.out
              clear q0 q1 q2 q3 t0 t2 t3
              go_wp2
              go_roundg (ns.length - (q + 1))
              case measure => have := HGK.out; have := HLT.out; omega
              case rel => exact ⟨q + 1, ys, rfl, HLT.out, rfl, E3.out.below B35.out, by have h1 := hI.out.2.1; rw [HED.out] at h1; rw [← h1]; simp only [scanL]; rw [if_neg GOON.out, if_neg TAKE.out], BL5.out, by have := hI.out.2.2.2; omega⟩
      · have hT1 : (0 : Int) < (TL : Int) := by omega
        have hto : to ≠ [] := fun e => by have := HTL.out; rw [e] at this; simp at this; omega
        have LS := keep (less_any xkp xkey.length xkc xkey tp TL tc to W3 (Src.below HXH.out.1 B3.out) (HTS.out.below BL3.out))
        cases hls : less xkey to with
        | false =>
          rw [hls] at LS
          go_wp2_with fail
          refine (LS.out).mono ?_
          rintro e w4 ⟨rfl, hw4⟩
          have hw5 := hw4.symm
          subst hw5
          go_wp2
          go_ret
          exact ⟨_, ys, rfl, E3.out, by have h1 := hI.out.2.1; rw [HED.out] at h1; rw [← h1]; simp only [scanL]; rw [if_pos ⟨hto, hls⟩], BL3.out⟩
        | true =>
          rw [hls] at LS
          have GOON : Hid (¬ (to ≠ [] ∧ less xkey to = false)) := fun e => by rw [hls] at e; cases e.2
          clear hls hto
          rcases List.eq_nil_or_concat ys with hys | ⟨zs, z, hys⟩
          · subst hys
            obtain ⟨ub, uc, hu⟩ : ∃ ub uc, u9 = .slice ub 0 uc := by
              rcases hI.out.1.row.2 with ⟨e, _⟩ | ⟨gg, cap, cur, e, _⟩
              · exact ⟨_, _, e⟩
              · exact ⟨_, _, e⟩
            subst hu
            have OLD : Hid (lastKey (([] : List EV).map (·.e)) ≠ some xkey) := lastKey_none rfl _
            go_wp2_with fail
            refine (LS.out).mono ?_
            rintro e w4 ⟨rfl, hw4⟩
            have hw5 := hw4.symm
            subst hw5
            go_wp2_with fail
            go_quiet (fail)
            obtain ⟨W5, hW5⟩ : ∃ W5, W3.drewN nq = W5 := ⟨_, rfl⟩
            rw [hW5]
            have B35 : Hid (Below W3.heap.size W3 W5) := by rw [← hW5]; exact below_drewN (Below.refl _ _) _
            have t0 : W5.cell? ⟨wr.heap.size, 0, none⟩ = some (.slice xkp xkey.length xkc) := below_cell B35.out (cell_of_row _ _ _ _ _ _ g3.out)
            have t1 : W5.cell? ⟨wr.heap.size, 1, none⟩ = some (.int .i64 xseq) := below_cell B35.out (cell_of_row _ _ _ _ _ _ g3.out)
            have t2 : W5.cell? ⟨wr.heap.size, 2, none⟩ = some (.bool xgone) := below_cell B35.out (cell_of_row _ _ _ _ _ _ g3.out)
            have t3 : W5.cell? ⟨wr.heap.size, 3, none⟩ = some (.slice xvp xval.length xvc) := below_cell B35.out (cell_of_row _ _ _ _ _ _ g3.out)
            clear hW5 hW3
            by_cases hsq : xseq ≤ s
            · have TAKE : Hid (xseq ≤ s ∧ lastKey (([] : List EV).map (·.e)) ≠ some xkey) := ⟨hsq, OLD.out⟩
              have CP := keep (copied_any ⟨xkp, xkc, xvp, xvc, ⟨xkey, xseq, xgone, xval⟩⟩ W5 (by simp only; omega) (by simp only; omega) (entKind_ok.below HXH.out (B3.out.trans (B35.out.mono B3.out.size))))
              unfold ev at CP
              simp only at CP
              go_wp2_with fail
              refine CP.out.mono ?_
              rintro e w6 ⟨y, rfl, hye, hyo, hb6⟩
              have HYE : Hid (y.e = ⟨xkey, xseq, xgone, xval⟩) := hye
              have b6 := keep (hb6.alloc hb6.size (.cells (entKind.vals y).toArray 28))
              have BL5 := keep (BL3.out.trans (B35.out.mono BL3.out.size))
              have E6 := keep ((E3.out.below B35.out).below b6.out)
              have O6 := keep ((hyo.base BL5.out.size).block ((Below.refl w6.heap.size w6).alloc (Nat.le_refl _) (.cells (entKind.vals y).toArray 28)))
              have BL6 := keep (BL5.out.trans (b6.out.mono BL5.out.size))
              have rc := keep (rec_cells (k := entKind) w6 28 y)
              have hyl2 : 0 ≤ 1000000 := by have := HQ.out; omega
              obtain ⟨ykp, ykc, yvp, yvc, ⟨ykey, yseq, ygone, yval⟩⟩ := y
              simp only [entKind] at b6 E6 O6 BL6
              simp only
              clear hye hyo hb6 CP q0 q1 q2 q3 t0 t1 t2 t3
              go_wp2_with (first
                | (at_builtin; go_loud (refine wpList_append_rec entKind_ok rfl _ _ 34 28 rfl w.heap.size i0 _ 64 Try.underlying34 hi0 hz0 hz1 hz2 rfl _ 0 [] rfl E6.out.row _ 1 (⟨ykp, ykc, yvp, yvc, ⟨ykey, yseq, ygone, yval⟩⟩ : EV) rfl rc.out (by unfold maxLen; omega) (by omega) (Nat.le_trans BL6.out.size (Nat.le_refl _)) ?_); intro v7 w7 ho7 hg7; have HO7 := keep ho7; have HG7 := keep hg7; have BL7 := keep (BL6.out.grown hg7 BL6.out.size (fun j hj => (E6.out.row.lt j hj).1)); have c7 := HNX.out w7 BL7.out; clear ho7 hg7))
              have E7 := keep (E6.out.more O6.out HO7.out HG7.out)
              go_roundg (ns.length - (q + 1))
              case measure => have := HGK.out; have := HLT.out; omega
              case rel => exact ⟨q + 1, [] ++ [⟨ykp, ykc, yvp, yvc, ⟨ykey, yseq, ygone, yval⟩⟩], rfl, HLT.out, rfl, E7.out, by rw [List.map_append]; have h1 := hI.out.2.1; rw [HED.out] at h1; have h2 : (⟨ykey, yseq, ygone, yval⟩ : Ent) = ⟨xkey, xseq, xgone, xval⟩ := HYE.out; rw [← h1]; simp only [scanL, List.map_cons, List.map_nil]; rw [h2, if_neg GOON.out]; exact (if_pos TAKE.out).symm, BL7.out, by rw [List.length_append, List.length_singleton]; have := hI.out.2.2.2; omega⟩
            · have TAKE : Hid (¬ (xseq ≤ s ∧ lastKey (([] : List EV).map (·.e)) ≠ some xkey)) := fun e => hsq e.1
              have hsq2 : decide (xseq ≤ s) = false := decide_eq_false hsq
              have BL5 := keep (BL3.out.trans (B35.out.mono BL3.out.size))
              have c7 := HNX.out W5 BL5.out
              clear q0 q1 q2 q3 t0 t2 t3
              go_wp2
              go_roundg (ns.length - (q + 1))
              case measure => have := HGK.out; have := HLT.out; omega
              case rel => exact ⟨q + 1, [], rfl, HLT.out, rfl, E3.out.below B35.out, by have h1 := hI.out.2.1; rw [HED.out] at h1; rw [← h1]; simp only [scanL]; rw [if_neg GOON.out, if_neg TAKE.out], BL5.out, by have := hI.out.2.2.2; omega⟩
          · rw [List.concat_eq_append] at hys
            obtain ⟨N1, hN1⟩ : ∃ N1, zs.length = N1 := ⟨_, rfl⟩
            have hyn : ys.length = N1 + 1 := by rw [hys, List.length_append, hN1]; rfl
            obtain ⟨ug, uc, hu⟩ : ∃ ug uc, u9 = .slice (some ⟨ug, 0, none⟩) (N1 + 1) uc := by
              have h1 := hI.out.1.row
              rw [hyn] at h1
              rcases h1.2 with ⟨_, e⟩ | ⟨gg, cap, cur, e, _⟩
              · omega
              · exact ⟨_, _, e⟩
            subst hu
            have hzm : z ∈ ys := by rw [hys]; simp
            have hzo := (E3.out.each z hzm).held
            have zc : W3.cell? ⟨ug, N1 * 4, none⟩ = some (.slice z.kp z.e.key.length z.kc) := by
              have h1 := E3.out.row
              obtain ⟨ax, cx, ex, hr, _⟩ := RSrc.own entKind_ok h1 (fun y hy => (E3.out.each y hy).held)
              obtain ⟨ex1, _, ex3⟩ := Value.slice.inj ex
              subst ex1
              subst ex3
              have h2 := hr.cells _ rfl (N1 * 4) _ ((rv_at entKind_ok 0 (i := N1) (e := z) (by rw [hys, List.getElem?_append_right (by omega), hN1]; simp) (by decide)).trans rfl)
              rwa [Addr.add_mid, Nat.zero_add] at h2
            have HYN := keep hyn
            have HLK : Hid (lastKey (ys.map (·.e)) = some z.e.key) := by show _ = _; rw [hys, List.map_append]; exact lastKey_snoc _ _
            have hn1 : (N1 : Int) ≤ 1000000 := by have := HQ.out; omega
            have hn0 : (0 : Int) ≤ (N1 : Int) := by omega
            have EQ : Hid (∀ n, Calls Try.prog 19 #[.slice z.kp z.e.key.length z.kc, .slice xkp xkey.length xkc] (W3.drewN n) fun e w' => e = .returned (.bool (decide (z.e.key = xkey))) ∧ w' = W3.drewN n) := fun n => equal_any z.kp z.e.key.length z.kc z.e.key xkp xkey.length xkc xkey (W3.drewN n) (hzo.1.below (below_drewN (Below.refl _ _) _)) ((Src.below HXH.out.1 B3.out).below (below_drewN (Below.refl _ _) _))
            clear hys hzm hzo hyn hN1
            obtain ⟨zkp, zkc, zvp, zvc, ⟨zkey, zseq, zgone, zval⟩⟩ := z
            simp only at zc EQ HLK
            by_cases hkk : zkey = xkey
            · rw [decide_eq_true hkk] at EQ
              have OLD : Hid (lastKey (ys.map (·.e)) = some xkey) := by show _ = _; rw [HLK.out, hkk]
              clear hkk
              go_wp2_with fail
              refine (LS.out).mono ?_
              rintro e w4 ⟨rfl, hw4⟩
              have hw5 := hw4.symm
              subst hw5
              go_wp2_with fail
              go_quiet ((go_at_call 19; exact Calls.quiet_of_same (EQ.out _)))
              obtain ⟨W5, hW5⟩ : ∃ W5, W3.drewN nq = W5 := ⟨_, rfl⟩
              rw [hW5]
              have B35 : Hid (Below W3.heap.size W3 W5) := by rw [← hW5]; exact below_drewN (Below.refl _ _) _
              have t0 : W5.cell? ⟨wr.heap.size, 0, none⟩ = some (.slice xkp xkey.length xkc) := below_cell B35.out (cell_of_row _ _ _ _ _ _ g3.out)
              have t1 : W5.cell? ⟨wr.heap.size, 1, none⟩ = some (.int .i64 xseq) := below_cell B35.out (cell_of_row _ _ _ _ _ _ g3.out)
              have t2 : W5.cell? ⟨wr.heap.size, 2, none⟩ = some (.bool xgone) := below_cell B35.out (cell_of_row _ _ _ _ _ _ g3.out)
              have t3 : W5.cell? ⟨wr.heap.size, 3, none⟩ = some (.slice xvp xval.length xvc) := below_cell B35.out (cell_of_row _ _ _ _ _ _ g3.out)
              clear hW5 hW3
              have TAKE : Hid (¬ (xseq ≤ s ∧ lastKey (ys.map (·.e)) ≠ some xkey)) := fun e => e.2 OLD.out
              by_cases hsq : xseq ≤ s
              · have BL5 := keep (BL3.out.trans (B35.out.mono BL3.out.size))
                have c7 := HNX.out W5 BL5.out
                clear q0 q1 q2 q3 t0 t2 t3
                go_wp2
                go_roundg (ns.length - (q + 1))
                case measure => have := HGK.out; have := HLT.out; omega
                case rel => exact ⟨q + 1, ys, rfl, HLT.out, rfl, E3.out.below B35.out, by have h1 := hI.out.2.1; rw [HED.out] at h1; rw [← h1]; simp only [scanL]; rw [if_neg GOON.out, if_neg TAKE.out], BL5.out, by have := hI.out.2.2.2; omega⟩
              · have hsq2 : decide (xseq ≤ s) = false := decide_eq_false hsq
                have BL5 := keep (BL3.out.trans (B35.out.mono BL3.out.size))
                have c7 := HNX.out W5 BL5.out
                clear q0 q1 q2 q3 t0 t2 t3
                go_wp2
                go_roundg (ns.length - (q + 1))
                case measure => have := HGK.out; have := HLT.out; omega
                case rel => exact ⟨q + 1, ys, rfl, HLT.out, rfl, E3.out.below B35.out, by have h1 := hI.out.2.1; rw [HED.out] at h1; rw [← h1]; simp only [scanL]; rw [if_neg GOON.out, if_neg TAKE.out], BL5.out, by have := hI.out.2.2.2; omega⟩
            · rw [decide_eq_false hkk] at EQ
              have OLD : Hid (lastKey (ys.map (·.e)) ≠ some xkey) := fun e => hkk (by rw [HLK.out] at e; exact Option.some.inj e)
              clear hkk
              go_wp2_with fail
              refine (LS.out).mono ?_
              rintro e w4 ⟨rfl, hw4⟩
              have hw5 := hw4.symm
              subst hw5
              go_wp2_with fail
              go_quiet ((go_at_call 19; exact Calls.quiet_of_same (EQ.out _)))
              obtain ⟨W5, hW5⟩ : ∃ W5, W3.drewN nq = W5 := ⟨_, rfl⟩
              rw [hW5]
              have B35 : Hid (Below W3.heap.size W3 W5) := by rw [← hW5]; exact below_drewN (Below.refl _ _) _
              have t0 : W5.cell? ⟨wr.heap.size, 0, none⟩ = some (.slice xkp xkey.length xkc) := below_cell B35.out (cell_of_row _ _ _ _ _ _ g3.out)
              have t1 : W5.cell? ⟨wr.heap.size, 1, none⟩ = some (.int .i64 xseq) := below_cell B35.out (cell_of_row _ _ _ _ _ _ g3.out)
              have t2 : W5.cell? ⟨wr.heap.size, 2, none⟩ = some (.bool xgone) := below_cell B35.out (cell_of_row _ _ _ _ _ _ g3.out)
              have t3 : W5.cell? ⟨wr.heap.size, 3, none⟩ = some (.slice xvp xval.length xvc) := below_cell B35.out (cell_of_row _ _ _ _ _ _ g3.out)
              clear hW5 hW3
              by_cases hsq : xseq ≤ s
              · have TAKE : Hid (xseq ≤ s ∧ lastKey (ys.map (·.e)) ≠ some xkey) := ⟨hsq, OLD.out⟩
                have CP := keep (copied_any ⟨xkp, xkc, xvp, xvc, ⟨xkey, xseq, xgone, xval⟩⟩ W5 (by simp only; omega) (by simp only; omega) (entKind_ok.below HXH.out (B3.out.trans (B35.out.mono B3.out.size))))
                unfold ev at CP
                simp only at CP
                go_wp2_with fail
                refine CP.out.mono ?_
                rintro e w6 ⟨y, rfl, hye, hyo, hb6⟩
                have HYE : Hid (y.e = ⟨xkey, xseq, xgone, xval⟩) := hye
                have b6 := keep (hb6.alloc hb6.size (.cells (entKind.vals y).toArray 28))
                have BL5 := keep (BL3.out.trans (B35.out.mono BL3.out.size))
                have E6 := keep ((E3.out.below B35.out).below b6.out)
                have O6 := keep ((hyo.base BL5.out.size).block ((Below.refl w6.heap.size w6).alloc (Nat.le_refl _) (.cells (entKind.vals y).toArray 28)))
                have BL6 := keep (BL5.out.trans (b6.out.mono BL5.out.size))
                have rc := keep (rec_cells (k := entKind) w6 28 y)
                have hyl2 : ys.length ≤ 1000000 := by have := HQ.out; omega
                obtain ⟨ykp, ykc, yvp, yvc, ⟨ykey, yseq, ygone, yval⟩⟩ := y
                simp only [entKind] at b6 E6 O6 BL6
                simp only
                clear hye hyo hb6 CP q0 q1 q2 q3 t0 t1 t2 t3
                go_wp2_with (first
                  | (at_builtin; go_loud (refine wpList_append_rec entKind_ok rfl _ _ 34 28 rfl w.heap.size i0 _ 64 Try.underlying34 hi0 hz0 hz1 hz2 rfl _ ys.length ys rfl E6.out.row _ 1 (⟨ykp, ykc, yvp, yvc, ⟨ykey, yseq, ygone, yval⟩⟩ : EV) rfl rc.out (by unfold maxLen; omega) (by omega) (Nat.le_trans BL6.out.size (Nat.le_refl _)) ?_); intro v7 w7 ho7 hg7; have HO7 := keep ho7; have HG7 := keep hg7; have BL7 := keep (BL6.out.grown hg7 BL6.out.size (fun j hj => (E6.out.row.lt j hj).1)); have c7 := HNX.out w7 BL7.out; clear ho7 hg7))
                have E7 := keep (E6.out.more O6.out HO7.out HG7.out)
                go_roundg (ns.length - (q + 1))
                case measure => have := HGK.out; have := HLT.out; omega
                case rel => exact ⟨q + 1, ys ++ [⟨ykp, ykc, yvp, yvc, ⟨ykey, yseq, ygone, yval⟩⟩], rfl, HLT.out, rfl, E7.out, by rw [List.map_append]; have h1 := hI.out.2.1; rw [HED.out] at h1; have h2 : (⟨ykey, yseq, ygone, yval⟩ : Ent) = ⟨xkey, xseq, xgone, xval⟩ := HYE.out; rw [← h1]; simp only [scanL, List.map_cons, List.map_nil]; rw [h2, if_neg GOON.out]; exact (if_pos TAKE.out).symm, BL7.out, by rw [List.length_append, List.length_singleton]; have := hI.out.2.2.2; omega⟩
              · have TAKE : Hid (¬ (xseq ≤ s ∧ lastKey (ys.map (·.e)) ≠ some xkey)) := fun e => hsq e.1
                have hsq2 : decide (xseq ≤ s) = false := decide_eq_false hsq
                have BL5 := keep (BL3.out.trans (B35.out.mono BL3.out.size))
                have c7 := HNX.out W5 BL5.out
                clear q0 q1 q2 q3 t0 t2 t3
                go_wp2
                go_roundg (ns.length - (q + 1))
                case measure => have := HGK.out; have := HLT.out; omega
                case rel => exact ⟨q + 1, ys, rfl, HLT.out, rfl, E3.out.below B35.out, by have h1 := hI.out.2.1; rw [HED.out] at h1; rw [← h1]; simp only [scanL]; rw [if_neg GOON.out, if_neg TAKE.out], BL5.out, by have := hI.out.2.2.2; omega⟩
end Go.Proofs.Ytjiphmeoofeepaa
