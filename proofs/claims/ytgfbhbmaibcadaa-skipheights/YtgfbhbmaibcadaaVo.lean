/- The walk of the statement that heights turn nothing but levels. -/
import Derived.Test.YtgfbhbmaibcadaaVn
namespace Go.Proofs.Ytgfbhbmaibcadaa
open Go.RowKit
open Sk (Ent)

/-- What was put so far. -/
structure Had (na : List Nd) (ys : List EV) (k : Nat) : Prop where
  mem : ∀ e, e ∈ ents na ↔ e ∈ ys.map (·.e)
  apart : Apart (ys.map (·.e))
  may : ∀ y ∈ ys, Sk.may y.e = true
  len : na.length ≤ k
  lenY : ys.length ≤ k
theorem Had.next {na na' : List Nd} {ys : List EV} {k : Nat} (h : Had na ys k) (he : ents na' = ents na) : Had na' ys (k + 1) := by
  have h1 := ents_length na'
  have h2 := ents_length na
  rw [he, h2] at h1
  exact ⟨by rw [he]; exact h.mem, h.apart, h.may, by have := h.len; omega, by have := h.lenY; omega⟩
theorem Had.more {na na' : List Nd} {ys : List EV} {k : Nat} {x : EV} (h : Had na ys k) (he : ents na' = Sk.ins (ents na) x.e) (hm : Sk.may x.e = true) (hn : Sk.there (ents na) x.e = false) : Had na' (ys ++ [x]) (k + 1) := by
  have h1 := ents_length na'
  have h2 := ents_length na
  rw [he, Sk.ins_length, h2] at h1
  refine ⟨fun e => ?_, ?_, fun y hy => ?_, by have := h.len; omega, by rw [List.length_append]; have := h.lenY; simp; omega⟩
  · rw [he, Sk.mem_ins, List.map_append, List.mem_append, h.mem]
    simp only [List.map_cons, List.map_nil, List.mem_singleton]
    exact Or.comm
  · rw [List.map_append]
    refine apart_snoc h.apart (fun z hz hq => ?_)
    have : Sk.there (ents na) x.e = true := there_mem.2 ⟨z, (h.mem z).2 hz, hq⟩
    rw [hn] at this
    cases this
  · rcases List.mem_append.1 hy with h3 | h3
    · exact h.may y h3
    · rw [List.mem_singleton.1 h3]; exact hm
theorem putOk_parts {l : List Ent} {e : Ent} {h : Int} (hp : putOk l e h = true) : Sk.may e = true ∧ Sk.there l e = false := by
  unfold putOk at hp
  rw [Bool.and_eq_true, Bool.and_eq_true] at hp
  exact ⟨hp.1.1, by simpa using hp.2⟩
theorem scanL_length (to : List UInt8) (q : Int) : ∀ (r out : List Ent), (scanL to q out r).length ≤ out.length + r.length
  | [], out => by simp [scanL]
  | e :: r, out => by
    simp only [scanL, List.length_cons]
    split
    · omega
    · split
      · have := scanL_length to q r (out ++ [e])
        rw [List.length_append] at this
        simp at this
        omega
      · have := scanL_length to q r out
        omega
theorem scan_length (l : List Ent) (f to : List UInt8) (q : Int) : (scan l f to q).length ≤ l.length := by
  unfold scan
  have := scanL_length to q (l.drop (Sk.count (fun e => less e.key f) l)) []
  rw [List.length_drop] at this
  simp at this
  omega
set_option maxHeartbeats 8000000 in
set_option maxRecDepth 100000 in
theorem heights_walk (ao : Option Addr) (m c : Nat) (es : List OpS) (ao2 : Option Addr) (m2 c2 : Nat) (hs2 : List Int) (ao3 : Option Addr) (m3 c3 : Nat) (key : List UInt8) (seq : Int) (w : World) (h1 : RSrc opsKind w ao m c es) (h2 : RSrc numKind w ao2 m2 c2 hs2) (h3 : Src w ao3 m3 c3 key) (hek : ∀ o ∈ es, o.x.e.key.length ≤ 9223372036854775807 ∧ o.x.e.val.length ≤ 9223372036854775807) :
    Calls Try.prog 4 #[.slice ao m c, .slice ao2 m2 c2, .slice ao3 m3 c3, .int .i64 seq] w fun e w' => e = .returned (.bool true) ∧ Below w.heap.size w w' := by
  obtain ⟨i0, hi0, hz0, hz1, hz2⟩ := info_parts3 infoE
  have H1 := keep h1
  have H2 := keep h2
  have hkl := h3.len
  subst hkl
  have H3 := keep h3
  have HK := keep hek
  have hl1 := h1.len
  clear h1 h2 h3 hek
  go_enter Try.func4, Try.ntmps4
  go_wp2_with fail
  refine (awake_any w).mono ?_
  rintro e w1 ⟨rfl, hb1⟩
  have B1 := keep hb1
  clear hb1
  go_wp2_with fail
  refine (new_raw w1).mono ?_
  rintro e w2 ⟨rfl, hw2⟩
  have HW2 := keep hw2
  clear hw2
  go_wp2_with fail
  refine (new_raw w2).mono ?_
  rintro e w3 ⟨rfl, hw3⟩
  have P0 : Hid (Pair w w1.heap.size [] w2.heap.size [] (.slice none 0 0) [] w3) := by rw [hw3, HW2.out]; exact pair_new w w1 B1.out
  clear HW2 hw3
  obtain ⟨ba, hba⟩ : ∃ ba, w1.heap.size = ba := ⟨_, rfl⟩
  obtain ⟨bb, hbb⟩ : ∃ bb, w2.heap.size = bb := ⟨_, rfl⟩
  rw [hba, hbb] at P0
  rw [hba, hbb]
  clear hba hbb
  go_wp2
  go_loopw [12, 13] (fun v i wr => ∃ (k : Nat) (na : List Nd) (ys : List EV), k ≤ m ∧ k ≤ 60 ∧ i = .int .i64 (k : Int) ∧ Hid (Pair w ba na bb [] v ys wr ∧ Had na ys k)) (fun _ i _ => m - (intOf i).toNat)
  case atStart => exact ⟨0, [], [], Nat.zero_le _, Nat.zero_le _, rfl, P0.out, ⟨fun e => Iff.rfl, trivial, (fun y hy => by cases hy), Nat.le_refl _, Nat.le_refl _⟩⟩
  case round =>
    clear P0
    obtain ⟨k, na, ys, hk, hk60, rfl, hP⟩ := hrel
    by_cases hlt : k < m ∧ k < 60
    · obtain ⟨hlt1, hlt2⟩ := hlt
      obtain ⟨b, off, rfl, _, _⟩ := H1.out.form opsKind_ok (by omega)
      obtain ⟨o, ho⟩ : ∃ o, es[k]? = some o := ⟨es[k], List.getElem?_eq_getElem (by omega)⟩
      have ll1 : (k : Int) < (m : Int) := by omega
      have ll2 : (k : Int) < 60 := by omega
      have ll0 : (0 : Int) ≤ (k : Int) := by omega
      have hmem := List.mem_of_getElem? ho
      have CE : Hid (∀ w', Below w.heap.size w w' → w'.cell? ⟨b, off + k * 8 + 1, none⟩ = some (.int .i64 o.h) ∧ w'.cell? ⟨b, off + k * 8 + 3, none⟩ = some (.slice o.x.kp o.x.e.key.length o.x.kc) ∧ w'.cell? ⟨b, off + k * 8 + 4, none⟩ = some (.int .i64 o.x.e.seq) ∧ w'.cell? ⟨b, off + k * 8 + 5, none⟩ = some (.bool o.x.e.gone) ∧ w'.cell? ⟨b, off + k * 8 + 6, none⟩ = some (.slice o.x.vp o.x.e.val.length o.x.vc)) := fun w' hb =>
        ⟨below_cell hb (op_cells H1.out ho 1 _ rfl), below_cell hb (op_cells H1.out ho 3 _ rfl), below_cell hb (op_cells H1.out ho 4 _ rfl), below_cell hb (op_cells H1.out ho 5 _ rfl), below_cell hb (op_cells H1.out ho 6 _ rfl)⟩
      have PU : Hid (∀ w', Below wr.heap.size wr w' → Calls Try.prog 20 #[.pointer (some ⟨ba, 0, none⟩), ev o.x, .int .i64 o.h] w' fun e w'' => e = .returned (.int .i64 (putN (ents na) o.x.e o.h)) ∧ ∃ na', Pair w ba na' bb [] u12 ys w'' ∧ ents na' = putE (ents na) o.x.e o.h) := fun w' hb => by
        have hP' := hP.out.1.below hb
        refine (put_any w.heap.size ba na o.x o.h w' hP'.one hP'.bel.size (by have := hP.out.2.len; omega) (entKind_ok.below (H1.out.held o hmem).1 hP'.bel) (HK.out o hmem).1 (HK.out o hmem).2).mono ?_
        rintro e w'' ⟨he, na', h4, h5, h6, h7⟩
        exact ⟨he, na', hP'.put h4 h6 h7, h5⟩
      obtain ⟨c1, c3', c4, c5, c6⟩ := CE.out wr hP.out.1.bel
      have HOX : Hid (entKind.held w o.x) := (H1.out.held o hmem).1
      obtain ⟨owhat, oh, on, ⟨xkp, xkc, xvp, xvc, ⟨xkey, xseq, xgone, xval⟩⟩, otp, otc, oto⟩ := o
      unfold ev at PU
      simp only at PU CE c1 c3' c4 c5 c6 HOX
      clear ho hmem
      cases hp : putOk (ents na) ⟨xkey, xseq, xgone, xval⟩ oh with
      | false =>
        have hN : putN (ents na) ⟨xkey, xseq, xgone, xval⟩ oh = 1 := by unfold putN; rw [hp]; rfl
        have hE : putE (ents na) ⟨xkey, xseq, xgone, xval⟩ oh = ents na := by unfold putE; rw [hp]; rfl
        rw [hN, hE] at PU
        clear hp hN hE
        go_wp2_with fail
        go_region_held3 (fun w' => w'.cell? ⟨b, off + k * 8 + 1, none⟩ = some (.int .i64 oh) ∧ w'.cell? ⟨b, off + k * 8 + 3, none⟩ = some (.slice xkp xkey.length xkc) ∧ w'.cell? ⟨b, off + k * 8 + 4, none⟩ = some (.int .i64 xseq) ∧ w'.cell? ⟨b, off + k * 8 + 5, none⟩ = some (.bool xgone) ∧ w'.cell? ⟨b, off + k * 8 + 6, none⟩ = some (.slice xvp xval.length xvc))
          (first | exact ⟨c1, c3', c4, c5, c6⟩ | exact CE.out _ P4.out.bel)
          ((go_at_call 20; refine (PU.out _ ((Below.refl _ _).drew)).mono ?_; rintro e w4 ⟨rfl, na', hP4, hE4⟩; have P4 := keep hP4; have E4 := keep hE4; clear hP4 hE4))
        go_wp2
        go_roundw
        case rel => exact ⟨k + 1, na', ys, by omega, by omega, by go_num, P4.out, hP.out.2.next E4.out⟩
        case measure => simp [intOf]; omega
      | true =>
        have hN : putN (ents na) ⟨xkey, xseq, xgone, xval⟩ oh = 0 := by unfold putN; rw [hp]; rfl
        have hE : putE (ents na) ⟨xkey, xseq, xgone, xval⟩ oh = Sk.ins (ents na) ⟨xkey, xseq, xgone, xval⟩ := by unfold putE; rw [hp]; rfl
        rw [hN, hE] at PU
        have HPO := keep (putOk_parts hp)
        clear hp hN hE
        go_wp2_with fail
        go_region_held3 (fun w' => w'.cell? ⟨b, off + k * 8 + 1, none⟩ = some (.int .i64 oh) ∧ w'.cell? ⟨b, off + k * 8 + 3, none⟩ = some (.slice xkp xkey.length xkc) ∧ w'.cell? ⟨b, off + k * 8 + 4, none⟩ = some (.int .i64 xseq) ∧ w'.cell? ⟨b, off + k * 8 + 5, none⟩ = some (.bool xgone) ∧ w'.cell? ⟨b, off + k * 8 + 6, none⟩ = some (.slice xvp xval.length xvc))
          (first | exact ⟨c1, c3', c4, c5, c6⟩ | exact CE.out _ P4.out.bel)
          ((go_at_call 20; refine (PU.out _ ((Below.refl _ _).drew)).mono ?_; rintro e w4 ⟨rfl, na', hP4, hE4⟩; have P4 := keep hP4; have E4 := keep hE4; clear hP4 hE4))
        obtain ⟨d1, d3, d4, d5, d6⟩ := CE.out w4 P4.out.bel
        have b5 : Hid (Below w4.heap.size w4 (w4.alloc (.cells (entKind.vals ⟨xkp, xkc, xvp, xvc, ⟨xkey, xseq, xgone, xval⟩⟩).toArray 34))) := (Below.refl _ _).alloc (Nat.le_refl _) _
        have P5 := keep (P4.out.below b5.out)
        have rc := keep (rec_cells (k := entKind) w4 34 ⟨xkp, xkc, xvp, xvc, ⟨xkey, xseq, xgone, xval⟩⟩)
        have hyl := hP.out.2.lenY
        simp only [entKind] at P5
        clear c1 c3' c4 c5 c6
        go_wp2_with (at_builtin; go_loud (refine wpList_append_rec entKind_ok rfl _ _ 27 34 rfl w.heap.size i0 _ 64 Try.underlying27 hi0 hz0 hz1 hz2 rfl u12 ys.length ys rfl P5.out.row _ 1 (⟨xkp, xkc, xvp, xvc, ⟨xkey, xseq, xgone, xval⟩⟩ : EV) rfl rc.out (by unfold maxLen; omega) (by omega) P5.out.bel.size ?_); intro v6 w6 ho6 hg6; have P6 := keep (P5.out.more HOX.out ho6 hg6); clear ho6 hg6)
        go_roundw
        case rel => exact ⟨k + 1, na', ys ++ [⟨xkp, xkc, xvp, xvc, ⟨xkey, xseq, xgone, xval⟩⟩], by omega, by omega, by go_num, P6.out, hP.out.2.more E4.out HPO.out.1 HPO.out.2⟩
        case measure => simp [intOf]; omega
    · have hcl : ¬ (k : Int) < (m : Int) ∨ ((k : Int) < (m : Int) ∧ ¬ (k : Int) < 60) := by omega
      obtain ⟨uo, uc, hu, hrr, _⟩ := RSrc.own entKind_ok hP.out.1.row (fun y hy => entKind_ok.below (hP.out.1.held y hy) hP.out.1.bel)
      subst hu
      have hyl := hP.out.2.lenY
      obtain ⟨L, hL⟩ : ∃ L, ys.length = L := ⟨_, rfl⟩
      rw [hL] at hyl hrr
      rw [hL]
      have HL := keep hL
      clear hL
      have hL60 : L ≤ 60 := by omega
      have hLi : (L : Int) ≤ 60 := by omega
      clear hlt
      rcases hcl with hc1 | ⟨hc1, hc2⟩
      · go_wp2
        obtain ⟨wz, hwz⟩ : ∃ wz, wz = wr := ⟨_, rfl⟩
        subst hwz
        go_loopw [14] (fun i wr => ∃ (j : Nat) (nb : List Nd), j ≤ L ∧ i = .int .i64 ((j : Int) - 1) ∧ Hid (Pair w ba na bb nb (.slice uo L uc) ys wr ∧ (∀ e, e ∈ ents nb ↔ e ∈ (ys.drop j).map (·.e)) ∧ nb.length = L - j)) (fun i _ => (intOf i + 1).toNat)
        case atStart => exact ⟨L, [], Nat.le_refl _, rfl, by have h8 := hP.out.1; rw [HL.out] at h8; exact h8, fun e => by rw [List.drop_of_length_le (by rw [HL.out]; exact Nat.le_refl _)]; exact Iff.rfl, by simp⟩
        case round =>
          obtain ⟨j, nb, hj, rfl, hQ⟩ := hrel
          cases j with
          | zero =>
            have e0 : ((0 : Nat) : Int) - 1 = -1 := by omega
            rw [e0]
            clear e0
            have SAME : Hid (ents nb = ents na) := Sk.up_ext hQ.out.1.two.mem.up hQ.out.1.one.mem.up (fun e => by
              rw [hQ.out.2.1 e, hP.out.2.mem e, List.drop_zero])
            have hna : na.length ≤ 1000000 := by have := hP.out.2.len; omega
            have hnb : nb.length ≤ 1000000 := by have := hQ.out.2.2; omega
            have GA := keep (get_any ba na ao3 c3 key seq wr hQ.out.1.one.mem (H3.out.below hQ.out.1.bel))
            go_wp2_with fail
            refine GA.out.mono ?_
            rintro e w4 ⟨y1, rfl, hy1, hh1, hb4⟩
            have B4 := keep hb4
            have HH1 := keep hh1
            have HY1 := keep hy1
            clear hy1 hh1 hb4
            obtain ⟨T, hT⟩ : ∃ T, (hitE (ents na) key seq).isSome = T := ⟨_, rfl⟩
            rw [hT]
            obtain ⟨pkp, pkc, pvp, pvc, ⟨pkey, pseq, pgone, pval⟩⟩ := y1
            unfold ev
            simp only
            obtain ⟨W5, hW5⟩ : ∃ W5, w4.alloc (.cells #[.slice pkp pkey.length pkc, .int .i64 pseq, .bool pgone, .slice pvp pval.length pvc] 34) = W5 := ⟨_, rfl⟩
            have g5 : Hid (W5.heap[w4.heap.size]? = some (.cells #[.slice pkp pkey.length pkc, .int .i64 pseq, .bool pgone, .slice pvp pval.length pvc] 34)) := by rw [← hW5]; exact heap_alloc_new w4 _
            have B45 : Hid (Below w4.heap.size w4 W5) := by rw [← hW5]; exact (Below.refl _ _).alloc (Nat.le_refl _) _
            have P5 := keep (hQ.out.1.below (B4.out.trans (B45.out.mono B4.out.size)))
            have GB := keep (get_any bb nb ao3 c3 key seq W5 P5.out.two.mem (H3.out.below P5.out.bel))
            rw [SAME.out, hT] at GB
            go_wp2_with fail
            refine GB.out.mono ?_
            rintro e w6 ⟨y2, rfl, hy2, hh2, hb6⟩
            have B6 := keep hb6
            have HH2 := keep hh2
            have HY2 := keep hy2
            clear hy2 hh2 hb6 hW5
            obtain ⟨skp, skc, svp, svc, ⟨skey, sseq, sgone, sval⟩⟩ := y2
            unfold ev
            simp only
            obtain ⟨W7, hW7⟩ : ∃ W7, w6.alloc (.cells #[.slice skp skey.length skc, .int .i64 sseq, .bool sgone, .slice svp sval.length svc] 34) = W7 := ⟨_, rfl⟩
            have g7 : Hid (W7.heap[w6.heap.size]? = some (.cells #[.slice skp skey.length skc, .int .i64 sseq, .bool sgone, .slice svp sval.length svc] 34)) := by rw [← hW7]; exact heap_alloc_new w6 _
            have B67 : Hid (Below w6.heap.size w6 W7) := by rw [← hW7]; exact (Below.refl _ _).alloc (Nat.le_refl _) _
            have P7 := keep (P5.out.below (B6.out.trans (B67.out.mono B6.out.size)))
            have k5 : Hid (W7.heap[w4.heap.size]? = some (.cells #[.slice pkp pkey.length pkc, .int .i64 pseq, .bool pgone, .slice pvp pval.length pvc] 34)) := ((B6.out.trans (B67.out.mono B6.out.size)).block _ (Array.getElem?_eq_some_iff.1 g5.out).1).trans g5.out
            have a0 : W7.cell? ⟨w4.heap.size, 0, none⟩ = some (.slice pkp pkey.length pkc) := cell_of_row _ _ _ _ _ _ k5.out
            have a1 : W7.cell? ⟨w4.heap.size, 1, none⟩ = some (.int .i64 pseq) := cell_of_row _ _ _ _ _ _ k5.out
            have a2 : W7.cell? ⟨w4.heap.size, 2, none⟩ = some (.bool pgone) := cell_of_row _ _ _ _ _ _ k5.out
            have a3 : W7.cell? ⟨w4.heap.size, 3, none⟩ = some (.slice pvp pval.length pvc) := cell_of_row _ _ _ _ _ _ k5.out
            have s0 : W7.cell? ⟨w6.heap.size, 0, none⟩ = some (.slice skp skey.length skc) := cell_of_row _ _ _ _ _ _ g7.out
            have s1 : W7.cell? ⟨w6.heap.size, 1, none⟩ = some (.int .i64 sseq) := cell_of_row _ _ _ _ _ _ g7.out
            have s2 : W7.cell? ⟨w6.heap.size, 2, none⟩ = some (.bool sgone) := cell_of_row _ _ _ _ _ _ g7.out
            have s3 : W7.cell? ⟨w6.heap.size, 3, none⟩ = some (.slice svp sval.length svc) := cell_of_row _ _ _ _ _ _ g7.out
            have SO := keep (sameOne_yes ⟨pkp, pkc, pvp, pvc, ⟨pkey, pseq, pgone, pval⟩⟩ ⟨skp, skc, svp, svc, ⟨skey, sseq, sgone, sval⟩⟩ W7 (entKind_ok.below HH1.out (B45.out.trans ((B6.out.trans (B67.out.mono B6.out.size)).mono B45.out.size))) (entKind_ok.below HH2.out B67.out) (HY1.out.trans HY2.out.symm))
            unfold ev at SO
            simp only at SO
            have hTT : (T == T) = true := by cases T <;> rfl
            cases T with
            | false =>
              go_wp2_with fail
              refine SO.out.mono ?_
              rintro e w8 ⟨rfl, hb8⟩
              have P8 := keep (P7.out.below hb8)
              clear hb8 hW7 a0 a1 a2 a3 s0 s1 s2 s3
              go_wp2_with fail
              refine (all_mem ba na w8 P8.out.one.mem hna).mono ?_
              rintro e w9 ⟨v9, ys9, rfl, hE9, hm9, hb9⟩
              obtain ⟨x9, c9, rfl, r9, _⟩ := RSrc.own entKind_ok hE9.row (fun y hy => (hE9.each y hy).held)
              have P9 := keep (P8.out.below hb9)
              have R9 := keep r9
              have HM9 : Hid (ys9.map (·.e) = ents na) := hm9
              clear hE9 hm9 hb9 r9
              go_wp2_with fail
              refine (all_mem bb nb w9 P9.out.two.mem hnb).mono ?_
              rintro e wa ⟨va, ysa, rfl, hEa, hma, hba⟩
              obtain ⟨xa, ca, rfl, ra, _⟩ := RSrc.own entKind_ok hEa.row (fun y hy => (hEa.each y hy).held)
              have PA := keep (P9.out.below hba)
              have HMA : Hid (ysa.map (·.e) = ents na) := by show _ = _; rw [← SAME.out]; exact hma
              have hla : ysa.length = ys9.length := by
                have h8 := congrArg List.length (HMA.out.trans HM9.out.symm)
                simpa using h8
              have hln9 : ys9.length ≤ 1000000000 := by
                have h8 := congrArg List.length HM9.out
                rw [List.length_map, ents_length] at h8
                omega
              rw [hla] at ra
              rw [hla]
              have SM := keep (same_yes x9 ys9.length c9 ys9 xa ca ysa wa hln9 (R9.out.below entKind_ok hba) ra (HM9.out.trans HMA.out.symm))
              clear hEa hma hba ra hla
              go_wp2_with fail
              refine SM.out.mono ?_
              rintro e wb ⟨rfl, hbb⟩
              have PB := keep (PA.out.below hbb)
              clear hbb SM R9
              go_wp2_with fail
              refine (scan_mem ba na ao3 c3 key none 0 [] seq wb PB.out.one.mem hna (H3.out.below PB.out.bel) (src_nil wb)).mono ?_
              rintro e wc ⟨vc, ysc, rfl, hEc, hmc, hbc⟩
              obtain ⟨xc, cc, rfl, rcc, _⟩ := RSrc.own entKind_ok hEc.row (fun y hy => (hEc.each y hy).held)
              have PC := keep (PB.out.below hbc)
              have RC := keep rcc
              have HMC := keep hmc
              clear hEc hmc hbc rcc
              go_wp2_with fail
              refine (scan_mem bb nb ao3 c3 key none 0 [] seq wc PC.out.two.mem hnb (H3.out.below PC.out.bel) (src_nil wc)).mono ?_
              rintro e wd ⟨vd, ysd, rfl, hEd, hmd, hbd⟩
              obtain ⟨xd, cd, rfl, rd, _⟩ := RSrc.own entKind_ok hEd.row (fun y hy => (hEd.each y hy).held)
              have PD := keep (PC.out.below hbd)
              rw [SAME.out] at hmd
              have hld : ysd.length = ysc.length := by
                have h8 := congrArg List.length (hmd.trans HMC.out.symm)
                simpa using h8
              have hlc : ysc.length ≤ 1000000000 := by
                have h8 := congrArg List.length HMC.out
                have h9 := scan_length (ents na) key [] seq
                rw [List.length_map] at h8
                rw [ents_length] at h9
                omega
              rw [hld] at rd
              rw [hld]
              have SM2 := keep (same_yes xc ysc.length cc ysc xd cd ysd wd hlc (RC.out.below entKind_ok hbd) rd (HMC.out.trans hmd.symm))
              clear hEd hmd hbd rd hld
              go_wp2_with fail
              refine SM2.out.mono ?_
              rintro e wf ⟨rfl, hbf⟩
              have PF := keep (PD.out.below hbf)
              clear hbf SM2 RC
              go_wp2_with fail
              refine (size_any ba (Sk.size (ents na) : Int) wf PF.out.one.size).mono ?_
              rintro e wg ⟨rfl, hwg⟩
              have hwg2 := hwg.symm
              subst hwg2
              go_wp2_with fail
              refine (size_any bb (Sk.size (ents na) : Int) wf (by rw [← SAME.out]; exact PF.out.two.size)).mono ?_
              rintro e wg ⟨rfl, hwg⟩
              have hwg2 := hwg.symm
              subst hwg2
              go_wp2
              go_ret
              exact ⟨rfl, PF.out.bel⟩
            | true =>
              go_wp2_with fail
              refine SO.out.mono ?_
              rintro e w8 ⟨rfl, hb8⟩
              have P8 := keep (P7.out.below hb8)
              clear hb8 hW7 a0 a1 a2 a3 s0 s1 s2 s3
              go_wp2_with fail
              refine (all_mem ba na w8 P8.out.one.mem hna).mono ?_
              rintro e w9 ⟨v9, ys9, rfl, hE9, hm9, hb9⟩
              obtain ⟨x9, c9, rfl, r9, _⟩ := RSrc.own entKind_ok hE9.row (fun y hy => (hE9.each y hy).held)
              have P9 := keep (P8.out.below hb9)
              have R9 := keep r9
              have HM9 : Hid (ys9.map (·.e) = ents na) := hm9
              clear hE9 hm9 hb9 r9
              go_wp2_with fail
              refine (all_mem bb nb w9 P9.out.two.mem hnb).mono ?_
              rintro e wa ⟨va, ysa, rfl, hEa, hma, hba⟩
              obtain ⟨xa, ca, rfl, ra, _⟩ := RSrc.own entKind_ok hEa.row (fun y hy => (hEa.each y hy).held)
              have PA := keep (P9.out.below hba)
              have HMA : Hid (ysa.map (·.e) = ents na) := by show _ = _; rw [← SAME.out]; exact hma
              have hla : ysa.length = ys9.length := by
                have h8 := congrArg List.length (HMA.out.trans HM9.out.symm)
                simpa using h8
              have hln9 : ys9.length ≤ 1000000000 := by
                have h8 := congrArg List.length HM9.out
                rw [List.length_map, ents_length] at h8
                omega
              rw [hla] at ra
              rw [hla]
              have SM := keep (same_yes x9 ys9.length c9 ys9 xa ca ysa wa hln9 (R9.out.below entKind_ok hba) ra (HM9.out.trans HMA.out.symm))
              clear hEa hma hba ra hla
              go_wp2_with fail
              refine SM.out.mono ?_
              rintro e wb ⟨rfl, hbb⟩
              have PB := keep (PA.out.below hbb)
              clear hbb SM R9
              go_wp2_with fail
              refine (scan_mem ba na ao3 c3 key none 0 [] seq wb PB.out.one.mem hna (H3.out.below PB.out.bel) (src_nil wb)).mono ?_
              rintro e wc ⟨vc, ysc, rfl, hEc, hmc, hbc⟩
              obtain ⟨xc, cc, rfl, rcc, _⟩ := RSrc.own entKind_ok hEc.row (fun y hy => (hEc.each y hy).held)
              have PC := keep (PB.out.below hbc)
              have RC := keep rcc
              have HMC := keep hmc
              clear hEc hmc hbc rcc
              go_wp2_with fail
              refine (scan_mem bb nb ao3 c3 key none 0 [] seq wc PC.out.two.mem hnb (H3.out.below PC.out.bel) (src_nil wc)).mono ?_
              rintro e wd ⟨vd, ysd, rfl, hEd, hmd, hbd⟩
              obtain ⟨xd, cd, rfl, rd, _⟩ := RSrc.own entKind_ok hEd.row (fun y hy => (hEd.each y hy).held)
              have PD := keep (PC.out.below hbd)
              rw [SAME.out] at hmd
              have hld : ysd.length = ysc.length := by
                have h8 := congrArg List.length (hmd.trans HMC.out.symm)
                simpa using h8
              have hlc : ysc.length ≤ 1000000000 := by
                have h8 := congrArg List.length HMC.out
                have h9 := scan_length (ents na) key [] seq
                rw [List.length_map] at h8
                rw [ents_length] at h9
                omega
              rw [hld] at rd
              rw [hld]
              have SM2 := keep (same_yes xc ysc.length cc ysc xd cd ysd wd hlc (RC.out.below entKind_ok hbd) rd (HMC.out.trans hmd.symm))
              clear hEd hmd hbd rd hld
              go_wp2_with fail
              refine SM2.out.mono ?_
              rintro e wf ⟨rfl, hbf⟩
              have PF := keep (PD.out.below hbf)
              clear hbf SM2 RC
              go_wp2_with fail
              refine (size_any ba (Sk.size (ents na) : Int) wf PF.out.one.size).mono ?_
              rintro e wg ⟨rfl, hwg⟩
              have hwg2 := hwg.symm
              subst hwg2
              go_wp2_with fail
              refine (size_any bb (Sk.size (ents na) : Int) wf (by rw [← SAME.out]; exact PF.out.two.size)).mono ?_
              rintro e wg ⟨rfl, hwg⟩
              have hwg2 := hwg.symm
              subst hwg2
              go_wp2
              go_ret
              exact ⟨rfl, PF.out.bel⟩
          | succ J =>
            have e0 : ((J + 1 : Nat) : Int) - 1 = (J : Int) := by omega
            rw [e0]
            clear e0
            obtain ⟨rb, roff, rfl, _, _⟩ := hrr.form entKind_ok (by omega)
            obtain ⟨y, hy⟩ : ∃ y, ys[J]? = some y := ⟨ys[J]'(by rw [HL.out]; omega), List.getElem?_eq_getElem _⟩
            have hymem := List.mem_of_getElem? hy
            have hR2 : RSrc entKind wr (some ⟨rb, roff, none⟩) L uc ys := by
              obtain ⟨ax, cx, ex, hrx, _⟩ := RSrc.own entKind_ok hQ.out.1.row (fun y hy => entKind_ok.below (hQ.out.1.held y hy) hQ.out.1.bel)
              obtain ⟨ex1, _, ex3⟩ := Value.slice.inj ex
              subst ex1
              subst ex3
              rw [HL.out] at hrx
              exact hrx
            obtain ⟨c0, c1, c2', c3'⟩ := ent_cells hR2 hy
            have hnot := apart_at hP.out.2.apart (j := J) (e := y.e) (by rw [List.getElem?_map, hy]; rfl)
            have hth : Sk.there (ents nb) y.e = false := there_false (fun x hx => hnot x (by
              have := (hQ.out.2.1 x).1 hx
              rwa [List.map_drop] at this))
            have hym := hP.out.2.may y hymem
            have hyk : y.e.key.length ≤ 64 ∧ y.e.val.length ≤ 1024 := by unfold Sk.may at hym; simp at hym; omega
            have PU : Hid (∀ H : Nat, H < 12 → Calls Try.prog 20 #[.pointer (some ⟨bb, 0, none⟩), ev y, .int .i64 (1 + (H : Int))] wr fun e w'' => e = .returned (.int .i64 0) ∧ ∃ nb', Hid (Pair w ba na bb nb' (.slice (some ⟨rb, roff, none⟩) L uc) ys w'' ∧ (∀ e, e ∈ ents nb' ↔ e ∈ (ys.drop J).map (·.e)) ∧ nb'.length = L - J)) := fun H hH => by
              have hok : putOk (ents nb) y.e (1 + (H : Int)) = true := by
                unfold putOk
                rw [hym, hth]
                simp
                omega
              refine (put_any w.heap.size bb nb y (1 + (H : Int)) wr hQ.out.1.two hQ.out.1.bel.size (by have := hQ.out.2.2; omega) (entKind_ok.below (hQ.out.1.held y hymem) hQ.out.1.bel) (by omega) (by omega)).mono ?_
              rintro e w'' ⟨he, nb', h4, h5, h6, h7⟩
              refine ⟨by rw [he]; unfold putN; rw [hok]; rfl, nb', (hQ.out.1.swap.put h4 h6 h7).swap, fun z => ?_, ?_⟩
              · rw [h5]
                unfold putE
                rw [hok, if_pos rfl, Sk.mem_ins, hQ.out.2.1 z]
                have : ys.drop J = y :: ys.drop (J + 1) := by
                  obtain ⟨h8, h9⟩ := List.getElem?_eq_some_iff.1 hy
                  rw [List.drop_eq_getElem_cons h8, h9]
                rw [this, List.map_cons, List.mem_cons]
              · have h8 := ents_length nb'
                rw [h5] at h8
                unfold putE at h8
                rw [hok, if_pos rfl, Sk.ins_length, ents_length] at h8
                have := hQ.out.2.2
                omega
            have ll1 : (J : Int) < (L : Int) := by omega
            have ll0 : (0 : Int) ≤ (J : Int) := by omega
            obtain ⟨ykp, ykc, yvp, yvc, ⟨ykey, yseq, ygone, yval⟩⟩ := y
            unfold ev at PU
            simp only at PU c0 c1 c2' c3'
            clear hnot hth hym hyk hy hymem hR2
            by_cases hJm : J < m2
            · obtain ⟨hb, hoff, rfl, _, hcz⟩ := H2.out.form numKind_ok (by omega)
              obtain ⟨z, hz⟩ : ∃ z, hs2[J]? = some z := ⟨hs2[J]'(by rw [H2.out.len]; exact hJm), List.getElem?_eq_getElem _⟩
              have hc7 : wr.cell? ⟨hb, hoff + J, none⟩ = some (.int .i64 z) := by
                have h8 := hcz J z hz 0 _ rfl
                simp only [numKind, Nat.mul_one, Nat.add_zero] at h8
                exact below_cell hQ.out.1.bel h8
              obtain ⟨q, hq1, hq2⟩ := and_mask z 1023 (by decide)
              have hq3 : bits .and .i64 z 1023 = (q : Int) := hq2
              obtain ⟨r, hr⟩ : ∃ r, q % 12 = r := ⟨_, rfl⟩
              have hr1 : r < 12 := by omega
              have hr2 : (q : Int) % 12 = (r : Int) := by omega
              have hr3 : (r : Int) < 12 := by omega
              have hq4 : (q : Int) ≤ 1023 := by omega
              have ll3 : (J : Int) < (m2 : Int) := by omega
              clear hcz hz hq2 hr
              go_wp2_with fail
              refine (PU.out r hr1).mono ?_
              rintro e w7 ⟨rfl, nb', hQ7⟩
              go_wp2
              go_roundw
              case rel => exact ⟨J, nb', by omega, by go_num, hQ7⟩
              case measure => simp [intOf]
            · have ll3 : ¬ (J : Int) < (m2 : Int) := by omega
              have PU1 := keep (PU.out 0 (by decide))
              have e1 : (1 : Int) + ((0 : Nat) : Int) = 1 := by omega
              rw [e1] at PU1
              clear e1
              go_wp2_with fail
              refine PU1.out.mono ?_
              rintro e w7 ⟨rfl, nb', hQ7⟩
              go_wp2
              go_roundw
              case rel => exact ⟨J, nb', by omega, by go_num, hQ7⟩
              case measure => simp [intOf]
      · go_wp2
        obtain ⟨wz, hwz⟩ : ∃ wz, wz = wr := ⟨_, rfl⟩
        subst hwz
        go_loopw [14] (fun i wr => ∃ (j : Nat) (nb : List Nd), j ≤ L ∧ i = .int .i64 ((j : Int) - 1) ∧ Hid (Pair w ba na bb nb (.slice uo L uc) ys wr ∧ (∀ e, e ∈ ents nb ↔ e ∈ (ys.drop j).map (·.e)) ∧ nb.length = L - j)) (fun i _ => (intOf i + 1).toNat)
        case atStart => exact ⟨L, [], Nat.le_refl _, rfl, by have h8 := hP.out.1; rw [HL.out] at h8; exact h8, fun e => by rw [List.drop_of_length_le (by rw [HL.out]; exact Nat.le_refl _)]; exact Iff.rfl, by simp⟩
        case round =>
          obtain ⟨j, nb, hj, rfl, hQ⟩ := hrel
          cases j with
          | zero =>
            have e0 : ((0 : Nat) : Int) - 1 = -1 := by omega
            rw [e0]
            clear e0
            have SAME : Hid (ents nb = ents na) := Sk.up_ext hQ.out.1.two.mem.up hQ.out.1.one.mem.up (fun e => by
              rw [hQ.out.2.1 e, hP.out.2.mem e, List.drop_zero])
            have hna : na.length ≤ 1000000 := by have := hP.out.2.len; omega
            have hnb : nb.length ≤ 1000000 := by have := hQ.out.2.2; omega
            have GA := keep (get_any ba na ao3 c3 key seq wr hQ.out.1.one.mem (H3.out.below hQ.out.1.bel))
            go_wp2_with fail
            refine GA.out.mono ?_
            rintro e w4 ⟨y1, rfl, hy1, hh1, hb4⟩
            have B4 := keep hb4
            have HH1 := keep hh1
            have HY1 := keep hy1
            clear hy1 hh1 hb4
            obtain ⟨T, hT⟩ : ∃ T, (hitE (ents na) key seq).isSome = T := ⟨_, rfl⟩
            rw [hT]
            obtain ⟨pkp, pkc, pvp, pvc, ⟨pkey, pseq, pgone, pval⟩⟩ := y1
            unfold ev
            simp only
            obtain ⟨W5, hW5⟩ : ∃ W5, w4.alloc (.cells #[.slice pkp pkey.length pkc, .int .i64 pseq, .bool pgone, .slice pvp pval.length pvc] 34) = W5 := ⟨_, rfl⟩
            have g5 : Hid (W5.heap[w4.heap.size]? = some (.cells #[.slice pkp pkey.length pkc, .int .i64 pseq, .bool pgone, .slice pvp pval.length pvc] 34)) := by rw [← hW5]; exact heap_alloc_new w4 _
            have B45 : Hid (Below w4.heap.size w4 W5) := by rw [← hW5]; exact (Below.refl _ _).alloc (Nat.le_refl _) _
            have P5 := keep (hQ.out.1.below (B4.out.trans (B45.out.mono B4.out.size)))
            have GB := keep (get_any bb nb ao3 c3 key seq W5 P5.out.two.mem (H3.out.below P5.out.bel))
            rw [SAME.out, hT] at GB
            go_wp2_with fail
            refine GB.out.mono ?_
            rintro e w6 ⟨y2, rfl, hy2, hh2, hb6⟩
            have B6 := keep hb6
            have HH2 := keep hh2
            have HY2 := keep hy2
            clear hy2 hh2 hb6 hW5
            obtain ⟨skp, skc, svp, svc, ⟨skey, sseq, sgone, sval⟩⟩ := y2
            unfold ev
            simp only
            obtain ⟨W7, hW7⟩ : ∃ W7, w6.alloc (.cells #[.slice skp skey.length skc, .int .i64 sseq, .bool sgone, .slice svp sval.length svc] 34) = W7 := ⟨_, rfl⟩
            have g7 : Hid (W7.heap[w6.heap.size]? = some (.cells #[.slice skp skey.length skc, .int .i64 sseq, .bool sgone, .slice svp sval.length svc] 34)) := by rw [← hW7]; exact heap_alloc_new w6 _
            have B67 : Hid (Below w6.heap.size w6 W7) := by rw [← hW7]; exact (Below.refl _ _).alloc (Nat.le_refl _) _
            have P7 := keep (P5.out.below (B6.out.trans (B67.out.mono B6.out.size)))
            have k5 : Hid (W7.heap[w4.heap.size]? = some (.cells #[.slice pkp pkey.length pkc, .int .i64 pseq, .bool pgone, .slice pvp pval.length pvc] 34)) := ((B6.out.trans (B67.out.mono B6.out.size)).block _ (Array.getElem?_eq_some_iff.1 g5.out).1).trans g5.out
            have a0 : W7.cell? ⟨w4.heap.size, 0, none⟩ = some (.slice pkp pkey.length pkc) := cell_of_row _ _ _ _ _ _ k5.out
            have a1 : W7.cell? ⟨w4.heap.size, 1, none⟩ = some (.int .i64 pseq) := cell_of_row _ _ _ _ _ _ k5.out
            have a2 : W7.cell? ⟨w4.heap.size, 2, none⟩ = some (.bool pgone) := cell_of_row _ _ _ _ _ _ k5.out
            have a3 : W7.cell? ⟨w4.heap.size, 3, none⟩ = some (.slice pvp pval.length pvc) := cell_of_row _ _ _ _ _ _ k5.out
            have s0 : W7.cell? ⟨w6.heap.size, 0, none⟩ = some (.slice skp skey.length skc) := cell_of_row _ _ _ _ _ _ g7.out
            have s1 : W7.cell? ⟨w6.heap.size, 1, none⟩ = some (.int .i64 sseq) := cell_of_row _ _ _ _ _ _ g7.out
            have s2 : W7.cell? ⟨w6.heap.size, 2, none⟩ = some (.bool sgone) := cell_of_row _ _ _ _ _ _ g7.out
            have s3 : W7.cell? ⟨w6.heap.size, 3, none⟩ = some (.slice svp sval.length svc) := cell_of_row _ _ _ _ _ _ g7.out
            have SO := keep (sameOne_yes ⟨pkp, pkc, pvp, pvc, ⟨pkey, pseq, pgone, pval⟩⟩ ⟨skp, skc, svp, svc, ⟨skey, sseq, sgone, sval⟩⟩ W7 (entKind_ok.below HH1.out (B45.out.trans ((B6.out.trans (B67.out.mono B6.out.size)).mono B45.out.size))) (entKind_ok.below HH2.out B67.out) (HY1.out.trans HY2.out.symm))
            unfold ev at SO
            simp only at SO
            have hTT : (T == T) = true := by cases T <;> rfl
            cases T with
            | false =>
              go_wp2_with fail
              refine SO.out.mono ?_
              rintro e w8 ⟨rfl, hb8⟩
              have P8 := keep (P7.out.below hb8)
              clear hb8 hW7 a0 a1 a2 a3 s0 s1 s2 s3
              go_wp2_with fail
              refine (all_mem ba na w8 P8.out.one.mem hna).mono ?_
              rintro e w9 ⟨v9, ys9, rfl, hE9, hm9, hb9⟩
              obtain ⟨x9, c9, rfl, r9, _⟩ := RSrc.own entKind_ok hE9.row (fun y hy => (hE9.each y hy).held)
              have P9 := keep (P8.out.below hb9)
              have R9 := keep r9
              have HM9 : Hid (ys9.map (·.e) = ents na) := hm9
              clear hE9 hm9 hb9 r9
              go_wp2_with fail
              refine (all_mem bb nb w9 P9.out.two.mem hnb).mono ?_
              rintro e wa ⟨va, ysa, rfl, hEa, hma, hba⟩
              obtain ⟨xa, ca, rfl, ra, _⟩ := RSrc.own entKind_ok hEa.row (fun y hy => (hEa.each y hy).held)
              have PA := keep (P9.out.below hba)
              have HMA : Hid (ysa.map (·.e) = ents na) := by show _ = _; rw [← SAME.out]; exact hma
              have hla : ysa.length = ys9.length := by
                have h8 := congrArg List.length (HMA.out.trans HM9.out.symm)
                simpa using h8
              have hln9 : ys9.length ≤ 1000000000 := by
                have h8 := congrArg List.length HM9.out
                rw [List.length_map, ents_length] at h8
                omega
              rw [hla] at ra
              rw [hla]
              have SM := keep (same_yes x9 ys9.length c9 ys9 xa ca ysa wa hln9 (R9.out.below entKind_ok hba) ra (HM9.out.trans HMA.out.symm))
              clear hEa hma hba ra hla
              go_wp2_with fail
              refine SM.out.mono ?_
              rintro e wb ⟨rfl, hbb⟩
              have PB := keep (PA.out.below hbb)
              clear hbb SM R9
              go_wp2_with fail
              refine (scan_mem ba na ao3 c3 key none 0 [] seq wb PB.out.one.mem hna (H3.out.below PB.out.bel) (src_nil wb)).mono ?_
              rintro e wc ⟨vc, ysc, rfl, hEc, hmc, hbc⟩
              obtain ⟨xc, cc, rfl, rcc, _⟩ := RSrc.own entKind_ok hEc.row (fun y hy => (hEc.each y hy).held)
              have PC := keep (PB.out.below hbc)
              have RC := keep rcc
              have HMC := keep hmc
              clear hEc hmc hbc rcc
              go_wp2_with fail
              refine (scan_mem bb nb ao3 c3 key none 0 [] seq wc PC.out.two.mem hnb (H3.out.below PC.out.bel) (src_nil wc)).mono ?_
              rintro e wd ⟨vd, ysd, rfl, hEd, hmd, hbd⟩
              obtain ⟨xd, cd, rfl, rd, _⟩ := RSrc.own entKind_ok hEd.row (fun y hy => (hEd.each y hy).held)
              have PD := keep (PC.out.below hbd)
              rw [SAME.out] at hmd
              have hld : ysd.length = ysc.length := by
                have h8 := congrArg List.length (hmd.trans HMC.out.symm)
                simpa using h8
              have hlc : ysc.length ≤ 1000000000 := by
                have h8 := congrArg List.length HMC.out
                have h9 := scan_length (ents na) key [] seq
                rw [List.length_map] at h8
                rw [ents_length] at h9
                omega
              rw [hld] at rd
              rw [hld]
              have SM2 := keep (same_yes xc ysc.length cc ysc xd cd ysd wd hlc (RC.out.below entKind_ok hbd) rd (HMC.out.trans hmd.symm))
              clear hEd hmd hbd rd hld
              go_wp2_with fail
              refine SM2.out.mono ?_
              rintro e wf ⟨rfl, hbf⟩
              have PF := keep (PD.out.below hbf)
              clear hbf SM2 RC
              go_wp2_with fail
              refine (size_any ba (Sk.size (ents na) : Int) wf PF.out.one.size).mono ?_
              rintro e wg ⟨rfl, hwg⟩
              have hwg2 := hwg.symm
              subst hwg2
              go_wp2_with fail
              refine (size_any bb (Sk.size (ents na) : Int) wf (by rw [← SAME.out]; exact PF.out.two.size)).mono ?_
              rintro e wg ⟨rfl, hwg⟩
              have hwg2 := hwg.symm
              subst hwg2
              go_wp2
              go_ret
              exact ⟨rfl, PF.out.bel⟩
            | true =>
              go_wp2_with fail
              refine SO.out.mono ?_
              rintro e w8 ⟨rfl, hb8⟩
              have P8 := keep (P7.out.below hb8)
              clear hb8 hW7 a0 a1 a2 a3 s0 s1 s2 s3
              go_wp2_with fail
              refine (all_mem ba na w8 P8.out.one.mem hna).mono ?_
              rintro e w9 ⟨v9, ys9, rfl, hE9, hm9, hb9⟩
              obtain ⟨x9, c9, rfl, r9, _⟩ := RSrc.own entKind_ok hE9.row (fun y hy => (hE9.each y hy).held)
              have P9 := keep (P8.out.below hb9)
              have R9 := keep r9
              have HM9 : Hid (ys9.map (·.e) = ents na) := hm9
              clear hE9 hm9 hb9 r9
              go_wp2_with fail
              refine (all_mem bb nb w9 P9.out.two.mem hnb).mono ?_
              rintro e wa ⟨va, ysa, rfl, hEa, hma, hba⟩
              obtain ⟨xa, ca, rfl, ra, _⟩ := RSrc.own entKind_ok hEa.row (fun y hy => (hEa.each y hy).held)
              have PA := keep (P9.out.below hba)
              have HMA : Hid (ysa.map (·.e) = ents na) := by show _ = _; rw [← SAME.out]; exact hma
              have hla : ysa.length = ys9.length := by
                have h8 := congrArg List.length (HMA.out.trans HM9.out.symm)
                simpa using h8
              have hln9 : ys9.length ≤ 1000000000 := by
                have h8 := congrArg List.length HM9.out
                rw [List.length_map, ents_length] at h8
                omega
              rw [hla] at ra
              rw [hla]
              have SM := keep (same_yes x9 ys9.length c9 ys9 xa ca ysa wa hln9 (R9.out.below entKind_ok hba) ra (HM9.out.trans HMA.out.symm))
              clear hEa hma hba ra hla
              go_wp2_with fail
              refine SM.out.mono ?_
              rintro e wb ⟨rfl, hbb⟩
              have PB := keep (PA.out.below hbb)
              clear hbb SM R9
              go_wp2_with fail
              refine (scan_mem ba na ao3 c3 key none 0 [] seq wb PB.out.one.mem hna (H3.out.below PB.out.bel) (src_nil wb)).mono ?_
              rintro e wc ⟨vc, ysc, rfl, hEc, hmc, hbc⟩
              obtain ⟨xc, cc, rfl, rcc, _⟩ := RSrc.own entKind_ok hEc.row (fun y hy => (hEc.each y hy).held)
              have PC := keep (PB.out.below hbc)
              have RC := keep rcc
              have HMC := keep hmc
              clear hEc hmc hbc rcc
              go_wp2_with fail
              refine (scan_mem bb nb ao3 c3 key none 0 [] seq wc PC.out.two.mem hnb (H3.out.below PC.out.bel) (src_nil wc)).mono ?_
              rintro e wd ⟨vd, ysd, rfl, hEd, hmd, hbd⟩
              obtain ⟨xd, cd, rfl, rd, _⟩ := RSrc.own entKind_ok hEd.row (fun y hy => (hEd.each y hy).held)
              have PD := keep (PC.out.below hbd)
              rw [SAME.out] at hmd
              have hld : ysd.length = ysc.length := by
                have h8 := congrArg List.length (hmd.trans HMC.out.symm)
                simpa using h8
              have hlc : ysc.length ≤ 1000000000 := by
                have h8 := congrArg List.length HMC.out
                have h9 := scan_length (ents na) key [] seq
                rw [List.length_map] at h8
                rw [ents_length] at h9
                omega
              rw [hld] at rd
              rw [hld]
              have SM2 := keep (same_yes xc ysc.length cc ysc xd cd ysd wd hlc (RC.out.below entKind_ok hbd) rd (HMC.out.trans hmd.symm))
              clear hEd hmd hbd rd hld
              go_wp2_with fail
              refine SM2.out.mono ?_
              rintro e wf ⟨rfl, hbf⟩
              have PF := keep (PD.out.below hbf)
              clear hbf SM2 RC
              go_wp2_with fail
              refine (size_any ba (Sk.size (ents na) : Int) wf PF.out.one.size).mono ?_
              rintro e wg ⟨rfl, hwg⟩
              have hwg2 := hwg.symm
              subst hwg2
              go_wp2_with fail
              refine (size_any bb (Sk.size (ents na) : Int) wf (by rw [← SAME.out]; exact PF.out.two.size)).mono ?_
              rintro e wg ⟨rfl, hwg⟩
              have hwg2 := hwg.symm
              subst hwg2
              go_wp2
              go_ret
              exact ⟨rfl, PF.out.bel⟩
          | succ J =>
            have e0 : ((J + 1 : Nat) : Int) - 1 = (J : Int) := by omega
            rw [e0]
            clear e0
            obtain ⟨rb, roff, rfl, _, _⟩ := hrr.form entKind_ok (by omega)
            obtain ⟨y, hy⟩ : ∃ y, ys[J]? = some y := ⟨ys[J]'(by rw [HL.out]; omega), List.getElem?_eq_getElem _⟩
            have hymem := List.mem_of_getElem? hy
            have hR2 : RSrc entKind wr (some ⟨rb, roff, none⟩) L uc ys := by
              obtain ⟨ax, cx, ex, hrx, _⟩ := RSrc.own entKind_ok hQ.out.1.row (fun y hy => entKind_ok.below (hQ.out.1.held y hy) hQ.out.1.bel)
              obtain ⟨ex1, _, ex3⟩ := Value.slice.inj ex
              subst ex1
              subst ex3
              rw [HL.out] at hrx
              exact hrx
            obtain ⟨c0, c1, c2', c3'⟩ := ent_cells hR2 hy
            have hnot := apart_at hP.out.2.apart (j := J) (e := y.e) (by rw [List.getElem?_map, hy]; rfl)
            have hth : Sk.there (ents nb) y.e = false := there_false (fun x hx => hnot x (by
              have := (hQ.out.2.1 x).1 hx
              rwa [List.map_drop] at this))
            have hym := hP.out.2.may y hymem
            have hyk : y.e.key.length ≤ 64 ∧ y.e.val.length ≤ 1024 := by unfold Sk.may at hym; simp at hym; omega
            have PU : Hid (∀ H : Nat, H < 12 → Calls Try.prog 20 #[.pointer (some ⟨bb, 0, none⟩), ev y, .int .i64 (1 + (H : Int))] wr fun e w'' => e = .returned (.int .i64 0) ∧ ∃ nb', Hid (Pair w ba na bb nb' (.slice (some ⟨rb, roff, none⟩) L uc) ys w'' ∧ (∀ e, e ∈ ents nb' ↔ e ∈ (ys.drop J).map (·.e)) ∧ nb'.length = L - J)) := fun H hH => by
              have hok : putOk (ents nb) y.e (1 + (H : Int)) = true := by
                unfold putOk
                rw [hym, hth]
                simp
                omega
              refine (put_any w.heap.size bb nb y (1 + (H : Int)) wr hQ.out.1.two hQ.out.1.bel.size (by have := hQ.out.2.2; omega) (entKind_ok.below (hQ.out.1.held y hymem) hQ.out.1.bel) (by omega) (by omega)).mono ?_
              rintro e w'' ⟨he, nb', h4, h5, h6, h7⟩
              refine ⟨by rw [he]; unfold putN; rw [hok]; rfl, nb', (hQ.out.1.swap.put h4 h6 h7).swap, fun z => ?_, ?_⟩
              · rw [h5]
                unfold putE
                rw [hok, if_pos rfl, Sk.mem_ins, hQ.out.2.1 z]
                have : ys.drop J = y :: ys.drop (J + 1) := by
                  obtain ⟨h8, h9⟩ := List.getElem?_eq_some_iff.1 hy
                  rw [List.drop_eq_getElem_cons h8, h9]
                rw [this, List.map_cons, List.mem_cons]
              · have h8 := ents_length nb'
                rw [h5] at h8
                unfold putE at h8
                rw [hok, if_pos rfl, Sk.ins_length, ents_length] at h8
                have := hQ.out.2.2
                omega
            have ll1 : (J : Int) < (L : Int) := by omega
            have ll0 : (0 : Int) ≤ (J : Int) := by omega
            obtain ⟨ykp, ykc, yvp, yvc, ⟨ykey, yseq, ygone, yval⟩⟩ := y
            unfold ev at PU
            simp only at PU c0 c1 c2' c3'
            clear hnot hth hym hyk hy hymem hR2
            by_cases hJm : J < m2
            · obtain ⟨hb, hoff, rfl, _, hcz⟩ := H2.out.form numKind_ok (by omega)
              obtain ⟨z, hz⟩ : ∃ z, hs2[J]? = some z := ⟨hs2[J]'(by rw [H2.out.len]; exact hJm), List.getElem?_eq_getElem _⟩
              have hc7 : wr.cell? ⟨hb, hoff + J, none⟩ = some (.int .i64 z) := by
                have h8 := hcz J z hz 0 _ rfl
                simp only [numKind, Nat.mul_one, Nat.add_zero] at h8
                exact below_cell hQ.out.1.bel h8
              obtain ⟨q, hq1, hq2⟩ := and_mask z 1023 (by decide)
              have hq3 : bits .and .i64 z 1023 = (q : Int) := hq2
              obtain ⟨r, hr⟩ : ∃ r, q % 12 = r := ⟨_, rfl⟩
              have hr1 : r < 12 := by omega
              have hr2 : (q : Int) % 12 = (r : Int) := by omega
              have hr3 : (r : Int) < 12 := by omega
              have hq4 : (q : Int) ≤ 1023 := by omega
              have ll3 : (J : Int) < (m2 : Int) := by omega
              clear hcz hz hq2 hr
              go_wp2_with fail
              refine (PU.out r hr1).mono ?_
              rintro e w7 ⟨rfl, nb', hQ7⟩
              go_wp2
              go_roundw
              case rel => exact ⟨J, nb', by omega, by go_num, hQ7⟩
              case measure => simp [intOf]
            · have ll3 : ¬ (J : Int) < (m2 : Int) := by omega
              have PU1 := keep (PU.out 0 (by decide))
              have e1 : (1 : Int) + ((0 : Nat) : Int) = 1 := by omega
              rw [e1] at PU1
              clear e1
              go_wp2_with fail
              refine PU1.out.mono ?_
              rintro e w7 ⟨rfl, nb', hQ7⟩
              go_wp2
              go_roundw
              case rel => exact ⟨J, nb', by omega, by go_num, hQ7⟩
              case measure => simp [intOf]
end Go.Proofs.Ytgfbhbmaibcadaa
