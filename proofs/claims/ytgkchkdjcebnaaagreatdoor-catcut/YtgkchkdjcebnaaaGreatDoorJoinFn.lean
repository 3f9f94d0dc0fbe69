/- The walk of the document's Same of versions that are the same. -/
/- CatTwo's walk. -/
import Derived.Test.YtgkchkdjcebnaaaGreatDoorJoinHm
import Derived.Test.YtgkchkdjcebnaaaGreatDoorJoinFm
namespace Go.Proofs.YtgkchkdjcebnaaaGreatDoor
open Go.RowKit
open Ed (Nt)

set_option maxHeartbeats 2000000 in
set_option maxRecDepth 100000 in
theorem rsame_yes (x y : VV) (w : World) (hx : VV.held w x) (hy : VV.held w y) (he : x.v = y.v) (hn : x.n ≤ 1000000000) :
    Calls Tryz.prog 26 #[x.val, y.val] w fun e w' => e = .returned (.bool true) ∧ Below w.heap.size w w' := by
  obtain ⟨p, n, c, gen, next, log, seq, es⟩ := x
  obtain ⟨p2, n2, c2, gen2, next2, log2, seq2, es2⟩ := y
  have SX : Hid (RSrc metaKind w p n c es) := hx
  have SY : Hid (RSrc metaKind w p2 n2 c2 es2) := hy
  have h0 : gen = gen2 := congrArg Ed.Ver.gen he
  have h1 : next = next2 := congrArg Ed.Ver.next he
  have h2 : log = log2 := congrArg Ed.Ver.log he
  have h3 : seq = seq2 := congrArg Ed.Ver.seq he
  have h4 : es.map (·.m) = es2.map (·.m) := congrArg Ed.Ver.tabs he
  have hl : n = n2 := by
    have := congrArg List.length h4
    rw [List.length_map, List.length_map, SX.out.len, SY.out.len] at this
    exact this
  subst h0 h1 h2 h3 hl
  simp only at hn
  unfold VV.val
  simp only
  obtain ⟨W1, hW1⟩ : ∃ W1, (w.alloc (.cells #[.int .i64 gen, .int .i64 next, .int .i64 log, .int .i64 seq, .slice p n c] 34)).alloc (.cells #[.int .i64 gen, .int .i64 next, .int .i64 log, .int .i64 seq, .slice p2 n c2] 34) = W1 := ⟨_, rfl⟩
  have b1 : Hid (Below w.heap.size w W1) := by rw [← hW1]; exact ((Below.refl _ _).alloc (Nat.le_refl _) _).alloc (by simp) _
  have g0 : Hid (W1.heap[w.heap.size]? = some (.cells #[.int .i64 gen, .int .i64 next, .int .i64 log, .int .i64 seq, .slice p n c] 34)) := by
    rw [← hW1]; exact (Below.heap_alloc _ _ _ (by simp)).trans (heap_alloc_new w _)
  have g1 : Hid (W1.heap[w.heap.size + 1]? = some (.cells #[.int .i64 gen, .int .i64 next, .int .i64 log, .int .i64 seq, .slice p2 n c2] 34)) := by
    have := heap_alloc_new (w.alloc (.cells #[.int .i64 gen, .int .i64 next, .int .i64 log, .int .i64 seq, .slice p n c] 34)) (.cells #[.int .i64 gen, .int .i64 next, .int .i64 log, .int .i64 seq, .slice p2 n c2] 34)
    rw [World.size_alloc] at this
    rw [← hW1]; exact this
  have x0 : W1.cell? ⟨w.heap.size, 0, none⟩ = some (.int .i64 gen) := cell_of_row _ _ _ _ _ _ g0.out
  have x1 : W1.cell? ⟨w.heap.size, 1, none⟩ = some (.int .i64 next) := cell_of_row _ _ _ _ _ _ g0.out
  have x2 : W1.cell? ⟨w.heap.size, 2, none⟩ = some (.int .i64 log) := cell_of_row _ _ _ _ _ _ g0.out
  have x3 : W1.cell? ⟨w.heap.size, 3, none⟩ = some (.int .i64 seq) := cell_of_row _ _ _ _ _ _ g0.out
  have x4 : W1.cell? ⟨w.heap.size, 4, none⟩ = some (.slice p n c) := cell_of_row _ _ _ _ _ _ g0.out
  have y0 : W1.cell? ⟨w.heap.size + 1, 0, none⟩ = some (.int .i64 gen) := cell_of_row _ _ _ _ _ _ g1.out
  have y1 : W1.cell? ⟨w.heap.size + 1, 1, none⟩ = some (.int .i64 next) := cell_of_row _ _ _ _ _ _ g1.out
  have y2 : W1.cell? ⟨w.heap.size + 1, 2, none⟩ = some (.int .i64 log) := cell_of_row _ _ _ _ _ _ g1.out
  have y3 : W1.cell? ⟨w.heap.size + 1, 3, none⟩ = some (.int .i64 seq) := cell_of_row _ _ _ _ _ _ g1.out
  have y4 : W1.cell? ⟨w.heap.size + 1, 4, none⟩ = some (.slice p2 n c2) := cell_of_row _ _ _ _ _ _ g1.out
  have SM := keep (sameMetas_yes p n c es p2 c2 es2 W1 (SX.out.below metaKind_ok b1.out) (SY.out.below metaKind_ok b1.out) h4 (by omega))
  clear hx hy he h4
  go_enter Tryz.func26, Tryz.ntmps26
  go_wp2_with fail
  refine SM.out.mono ?_
  rintro e w2 ⟨rfl, hb2⟩
  have B2 := keep (b1.out.trans (hb2.mono b1.out.size))
  clear hb2 SM
  go_wp2
  go_ret
  exact ⟨rfl, B2.out⟩
end Go.Proofs.YtgkchkdjcebnaaaGreatDoor
namespace Go.Proofs.YtgkchkdjcebnaaaGreatDoor
open Go.RowKit
open Dk (File Disk)

/-- Versions in a row. -/
def verK : Kind VV where
  size := 5
  vals x := [.int .i64 x.gen, .int .i64 x.next, .int .i64 x.log, .int .i64 x.seq, .slice x.p x.n x.c]
  held w x := VV.held w x
theorem verK_ok : verK.Ok :=
  ⟨by decide, fun _ => rfl, fun e u hu => by
    simp only [verK, List.mem_cons, List.not_mem_nil, or_false] at hu
    rcases hu with rfl | rfl | rfl | rfl | rfl <;> rfl, fun h hb => VV.held.below h hb⟩
theorem ver_cells {w : World} {b off n c : Nat} {es : List VV} (h : RSrc verK w (some ⟨b, off, none⟩) n c es) {i : Nat} {x : VV} (hx : es[i]? = some x) :
    w.cell? ⟨b, off + i * 5, none⟩ = some (.int .i64 x.gen) ∧ w.cell? ⟨b, off + i * 5 + 1, none⟩ = some (.int .i64 x.next) ∧ w.cell? ⟨b, off + i * 5 + 2, none⟩ = some (.int .i64 x.log) ∧ w.cell? ⟨b, off + i * 5 + 3, none⟩ = some (.int .i64 x.seq) ∧ w.cell? ⟨b, off + i * 5 + 4, none⟩ = some (.slice x.p x.n x.c) := by
  have one : ∀ (j : Nat) (u : Value), (verK.vals x)[j]? = some u → w.cell? ⟨b, off + i * 5 + j, none⟩ = some u := fun j u hu => by
    have hj : j < 5 := (List.getElem?_eq_some_iff.1 hu).1
    have := h.cells _ rfl (i * verK.size + j) u ((rv_at verK_ok j hx hj).trans hu)
    rw [Addr.add_mid] at this
    rw [show off + i * 5 + j = off + (i * verK.size + j) by show _ = off + (i * 5 + j); omega]
    exact this
  exact ⟨one 0 _ rfl, one 1 _ rfl, one 2 _ rfl, one 3 _ rfl, one 4 _ rfl⟩
/-- Between two saves. -/
structure TwI (w : World) (b k : Nat) (W : World) (d : Disk) : Prop where
  disk : ∃ S, DW w S W b d
  vn : Vn d
  cap : d.cap = 1099511627776
  done : d.done ≤ k * 2300000000000
theorem TwI.next {w : World} {b k : Nat} {W W' : World} {d : Disk} (h : TwI w b k W d) (hb : Below W.heap.size W W') : TwI w b k W' d := by
  obtain ⟨S, h1⟩ := h.disk
  exact ⟨⟨S, h1.next hb⟩, h.vn, h.cap, h.done⟩
theorem TwI.up {w : World} {b k : Nat} {W : World} {d : Disk} (h : TwI w b k W d) : TwI w b (k + 1) W d := ⟨h.disk, h.vn, h.cap, Nat.le_trans h.done (Nat.mul_le_mul_right _ (Nat.le_succ k))⟩
theorem TwI.bel {w : World} {b k : Nat} {W : World} {d : Disk} (h : TwI w b k W d) : Below w.heap.size w W := by
  obtain ⟨S, h1⟩ := h.disk
  exact h1.bel
theorem TwI.save {w : World} {b k : Nat} {W W' : World} {d : Disk} (h : TwI w b k W d) {S S' : Nat → Prop} (h1 : DW w S W b d) (v : Ed.Ver) (h2 : Own (Go.Proofs.YtgkchkdjcebnaaaGreatDoor.mine S b) W S' W' b (catSave d v).2) : TwI w b (k + 1) W' (catSave d v).2 := by
  have hf := catSave_far v h1.mem.good
  refine ⟨⟨S', h1.then h2⟩, h.vn.far hf, hf.cap.trans h.cap, ?_⟩
  have h3 := hf.done
  rw [h.cap] at h3
  have := h.done
  omega
set_option maxHeartbeats 4000000 in
set_option maxRecDepth 100000 in
theorem two_walk (ao : Option Addr) (n c : Nat) (es : List VV) (w : World) (hs : RSrc verK w ao n c es) (hg : Gl w) :
    Calls Tryz.prog 7 #[.slice ao n c] w fun e w' => e = .returned (.bool true) ∧ Below w.heap.size w w' := by
  have SRC := keep hs
  have HL := keep hs.len
  have HG := keep hg
  have AW := keep (awake11 w hg)
  clear hs hg
  go_enter Tryz.func7, Tryz.ntmps7
  go_wp2_with fail
  refine AW.out.mono ?_
  rintro e w1 ⟨rfl, hb1⟩
  have B1 := keep hb1
  have NE := keep (new_mem 1099511627776 w1 (by omega))
  rw [show ((1099511627776 : Nat) : Int) = 1099511627776 from rfl] at NE
  clear hb1 AW
  go_wp2_with fail
  refine NE.out.mono ?_
  rintro e w2 ⟨b, S, rfl, hm, hsn, hb, hbel⟩
  have I2 : Hid (TwI w b 0 w2 ⟨1099511627776, [], 0, none, false⟩) := ⟨⟨S, hm, fun g hg => by
    rcases hg with hg | hg
    · exact Nat.le_trans B1.out.size (hsn g hg)
    · rw [hg]; exact Nat.le_trans B1.out.size hb, B1.out.trans (hbel.mono B1.out.size), HG.out⟩, (fun f hf => by cases hf), rfl, Nat.zero_le _⟩
  clear hm hsn hb hbel NE B1
  go_wp2
  go_loopw [6] (fun i wr => ∃ (k : Nat) (D : Disk), k ≤ n ∧ k ≤ 10 ∧ i = .int .i64 (k : Int) ∧ Hid (TwI w b k wr D)) (fun i _ => 10 - (intOf i).toNat)
  case atStart => exact ⟨0, _, Nat.zero_le _, Nat.zero_le _, rfl, I2.out⟩
  case round =>
    clear I2
    obtain ⟨k, D, hk, hk10, rfl, hI⟩ := hrel
    have BW := keep hI.out.bel
    by_cases hkn : k < n
    · have ll : (k : Int) < (n : Int) := by omega
      have l0 : (0 : Int) ≤ (k : Int) := by omega
      by_cases h10 : k < 10
      · have lt : (k : Int) < 10 := by omega
        obtain ⟨g, off, rfl, _, _⟩ := SRC.out.form verK_ok (by omega)
        obtain ⟨x, hx⟩ : ∃ x, es[k]? = some x := ⟨es[k]'(by rw [HL.out]; exact hkn), List.getElem?_eq_getElem _⟩
        have CE : Hid (∀ w', Below w.heap.size w w' → _) := fun w' hb => ver_cells (SRC.out.below verK_ok hb) hx
        have XH : Hid (∀ w', Below w.heap.size w w' → VV.held w' x) := fun w' hb => (SRC.out.below verK_ok hb).held x (List.mem_of_getElem? hx)
        clear hx
        obtain ⟨xp, xn, xc, xgen, xnext, xlog, xseq, xes⟩ := x
        simp only at CE
        obtain ⟨p0, p1, p2, p3, p4⟩ := CE.out wr BW.out
        by_cases hbig : 100 < xn
        · have hb1 : (100 : Int) < (xn : Int) := by omega
          have I1 := keep hI.out.up
          go_wp2
          go_roundw
          case rel => exact ⟨k + 1, D, by omega, by omega, by go_num, I1.out⟩
          case measure => simp [intOf]; omega
        · have hb1 : ¬ (100 : Int) < (xn : Int) := by omega
          have MI := keep (mine11 ⟨xp, xn, xc, xgen, xnext, xlog, xseq, xes⟩ wr (XH.out wr BW.out) (by show xn ≤ _; omega))
          obtain ⟨V, hV⟩ : ∃ V, VV.v ⟨xp, xn, xc, xgen, xnext, xlog, xseq, xes⟩ = V := ⟨_, rfl⟩
          have HV := keep hV
          rw [hV] at MI
          unfold VV.val at MI
          simp only at MI
          have XLEN : Hid (V.tabs.length = xn) := by
            show _ = _
            rw [← hV]
            show (xes.map (·.m)).length = xn
            rw [List.length_map]
            exact (XH.out wr BW.out).len
          clear hV
          go_wp2_with fail
          refine MI.out.mono ?_
          rintro e w3 ⟨y, rfl, hy, hyv, hyn, hb3⟩
          obtain ⟨S3, hD3⟩ := (hI.out.next hb3).disk
          have I3 := keep (hI.out.next hb3)
          have D3 := keep hD3
          have SA := keep (save_own S3 w3 b D y hD3.mem hy (fun w' hk => HG.out.below (D3.out.gK hk)) (by have := hI.out.done; omega))
          rw [hyv] at SA
          obtain ⟨yp, yn, yc, ygen, ynext, ylog, yseq, yes⟩ := y
          unfold VV.val at SA
          simp only at SA ⊢
          clear hy hyv hyn hb3 hD3 MI p0 p1 p2 p3 p4
          go_wp2_with fail
          refine SA.out.mono ?_
          rintro e w4 ⟨S4, rfl, hO4⟩
          have I4 := keep (I3.out.save D3.out V hO4)
          have OK : Hid ((catSave D V).1 = 0 → catLoad (catSave D V).2 = (0, V) ∧ (catSave D V).2.files.length = 2) := fun h => ⟨(catSave_ok D3.out.mem.good h).2.2.load, catSave_two D3.out.mem.good I3.out.vn h⟩
          obtain ⟨X, hX⟩ : ∃ X, catSave D V = X := ⟨_, rfl⟩
          rw [hX] at I4 OK ⊢
          obtain ⟨E, D4⟩ := X
          simp only at I4 OK ⊢
          clear hO4 SA hX
          by_cases hE : E = 0
          case neg =>
            have z1 : ((E : Int) == 0) = false := by rw [beq_eq_false_iff_ne]; omega
            clear hE
            go_wp2
            go_roundw
            case rel => exact ⟨k + 1, D4, by omega, by omega, by go_num, I4.out⟩
            case measure => simp [intOf]; omega
          subst hE
          have LO := keep (OK.out rfl).1
          have TWO := keep (OK.out rfl).2
          obtain ⟨S5, hD5⟩ := I4.out.disk
          have LA := keep (catload_any S5 b D4 w4 hD5.mem hD5.gW)
          rw [LO.out] at LA
          unfold LoadA at LA
          clear OK hD5
          go_wp2_with fail
          refine LA.out.mono ?_
          rintro e w5 ⟨⟨z, rfl, hzf, hzv⟩, hb5⟩
          have ZH := keep hzf.held
          have ZV := keep hzv
          obtain ⟨zp, zn, zc, zgen, znext, zlog, zseq, zes⟩ := z
          have ZN : Hid (zn ≤ 100) := by
            have h1 : zes.length = zn := ZH.out.len
            have h2 : zes.map (·.m) = V.tabs := (VV.isV hzv).2.2.2.2
            have h3 := XLEN.out
            rw [← h2, List.length_map] at h3
            show _ ≤ _
            omega
          try unfold VV.val
          simp only
          obtain ⟨W6, hW6⟩ : ∃ W6, w5.alloc (.cells #[.int .i64 zgen, .int .i64 znext, .int .i64 zlog, .int .i64 zseq, .slice zp zn zc] 50) = W6 := ⟨_, rfl⟩
          have b6 : Hid (Below w5.heap.size w5 W6) := by rw [← hW6]; exact (Below.refl _ _).alloc (Nat.le_refl _) _
          have I6 := keep (I4.out.next (hb5.trans (b6.out.mono hb5.size)))
          have g6 : Hid (W6.heap[w5.heap.size]? = some (.cells #[.int .i64 zgen, .int .i64 znext, .int .i64 zlog, .int .i64 zseq, .slice zp zn zc] 50)) := by rw [← hW6]; exact heap_alloc_new w5 _
          have CZ : Hid (∀ w', Below W6.heap.size W6 w' → w'.cell? ⟨w5.heap.size, 0, none⟩ = some (.int .i64 zgen) ∧ w'.cell? ⟨w5.heap.size, 1, none⟩ = some (.int .i64 znext) ∧ w'.cell? ⟨w5.heap.size, 2, none⟩ = some (.int .i64 zlog) ∧ w'.cell? ⟨w5.heap.size, 3, none⟩ = some (.int .i64 zseq) ∧ w'.cell? ⟨w5.heap.size, 4, none⟩ = some (.slice zp zn zc)) := fun w' hb => ⟨below_cell hb (cell_of_row _ _ _ _ _ _ g6.out), below_cell hb (cell_of_row _ _ _ _ _ _ g6.out), below_cell hb (cell_of_row _ _ _ _ _ _ g6.out), below_cell hb (cell_of_row _ _ _ _ _ _ g6.out), below_cell hb (cell_of_row _ _ _ _ _ _ g6.out)⟩
          have TH : Hid (∀ w', Below W6.heap.size W6 w' → Calls Tryz.prog 27 #[.agg #[.int .i64 zgen, .int .i64 znext, .int .i64 zlog, .int .i64 zseq, .slice zp zn zc]] w' fun e w'' => ∃ u : VV, e = .returned u.val ∧ VV.held w'' u ∧ u.v = V ∧ u.n = zn ∧ Below w'.heap.size w' w'') := fun w' hb => by
            have h := theirs11 ⟨zp, zn, zc, zgen, znext, zlog, zseq, zes⟩ w' (ZH.out.below (b6.out.trans (hb.mono b6.out.size))) (by show zn ≤ _; have := ZN.out; omega)
            rw [ZV.out] at h
            exact h
          have CX : Hid (∀ w', Below W6.heap.size W6 w' → w'.cell? ⟨g, off + k * 5, none⟩ = some (.int .i64 xgen) ∧ w'.cell? ⟨g, off + k * 5 + 1, none⟩ = some (.int .i64 xnext) ∧ w'.cell? ⟨g, off + k * 5 + 2, none⟩ = some (.int .i64 xlog) ∧ w'.cell? ⟨g, off + k * 5 + 3, none⟩ = some (.int .i64 xseq) ∧ w'.cell? ⟨g, off + k * 5 + 4, none⟩ = some (.slice xp xn xc)) := fun w' hb => CE.out w' (I6.out.next hb).bel
          have SM : Hid (∀ (u : VV) (w' : World), Below W6.heap.size W6 w' → VV.held w' u → u.v = V → u.n = zn → Calls Tryz.prog 26 #[u.val, .agg #[.int .i64 xgen, .int .i64 xnext, .int .i64 xlog, .int .i64 xseq, .slice xp xn xc]] w' fun e w'' => e = .returned (.bool true) ∧ Below w'.heap.size w' w'') := fun u w' hb hu huv hun => rsame_yes u ⟨xp, xn, xc, xgen, xnext, xlog, xseq, xes⟩ w' hu (XH.out w' (I6.out.next hb).bel) (huv.trans HV.out.symm) (by rw [hun]; have := ZN.out; omega)
          have NM : Hid (∀ w', Below W6.heap.size W6 w' → Calls Tryz.prog 28 #[.pointer (some ⟨b, 0, none⟩)] w' fun e w'' => (∃ ao c, e = .returned (.slice ao 2 c)) ∧ Below w'.heap.size w' w'') := fun w' hb => by
            obtain ⟨S7, h7⟩ := (I6.out.next hb).disk
            obtain ⟨m, l, left, hm⟩ := h7.mem
            refine (names_mem S7 b m l left _ w' hm).mono ?_
            rintro e w'' ⟨ao, cc, rfl, _, _, hb2⟩
            rw [TWO.out]
            exact ⟨⟨ao, cc, rfl⟩, hb2⟩
          clear hzf hzv hb5 LA
          go_wp2_with fail
          refine wp_region_held_drew (S := fun w' => Below W6.heap.size W6 w') (by kernel_rfl) ((Below.refl _ _).drew) (fun hHeld => ?_)
          refine takeH (i := 0) 52 (v := .int .i64 0) rfl rfl (by kernel_rfl) (by kernel_rfl) (by kernel_rfl) (fun _ _ _ h => h) (Or.inl ⟨by rfl, ?_⟩) (by assumption) ?_
          · intro w' hSw'
            go_simp
          simp only [Act.put, List.setIfInBounds_toArray, List.set_cons_zero, List.set_cons_succ]
          refine takeH (i := 1) 53 (v := .bool false) rfl rfl (by kernel_rfl) (by kernel_rfl) (by kernel_rfl) (fun _ _ _ h => h) (Or.inl ⟨by rfl, ?_⟩) (by assumption) ?_
          · intro w' hSw'
            go_simp
          simp only [Act.put, List.setIfInBounds_toArray, List.set_cons_zero, List.set_cons_succ]
          refine takeH (i := 2) 54 (v := .bool false) rfl rfl (by kernel_rfl) (by kernel_rfl) (by kernel_rfl) (fun _ _ _ h => h) (Or.inl ⟨by rfl, ?_⟩) (by assumption) ?_
          · intro w' hSw'
            go_simp
          simp only [Act.put, List.setIfInBounds_toArray, List.set_cons_zero, List.set_cons_succ]
          refine takeH (i := 3) 55 (v := .agg #[.int .i64 zgen, .int .i64 znext, .int .i64 zlog, .int .i64 zseq, .slice zp zn zc]) rfl rfl (by kernel_rfl) (by kernel_rfl) (by kernel_rfl) (fun _ _ _ h => h) (Or.inl ⟨by rfl, ?_⟩) (by assumption) ?_
          · intro w' hSw'
            obtain ⟨d0, d1, d2, d3, d4⟩ := CZ.out w' hSw'
            go_simp
          simp only [Act.put, List.setIfInBounds_toArray, List.set_cons_zero, List.set_cons_succ]
          refine takeH (i := 5) 57 (v := .slice (some ⟨g, off, none⟩) n c) rfl rfl (by kernel_rfl) (by kernel_rfl) (by kernel_rfl) (fun _ _ _ h => h) (Or.inl ⟨by rfl, ?_⟩) (by assumption) ?_
          · intro w' hSw'
            go_simp
          simp only [Act.put, List.setIfInBounds_toArray, List.set_cons_zero, List.set_cons_succ]
          refine takeH (i := 6) 58 (v := .int .i64 (k : Int)) rfl rfl (by kernel_rfl) (by kernel_rfl) (by kernel_rfl) (fun _ _ _ h => h) (Or.inl ⟨by rfl, ?_⟩) (by assumption) ?_
          · intro w' hSw'
            go_simp
          simp only [Act.put, List.setIfInBounds_toArray, List.set_cons_zero, List.set_cons_succ]
          refine takeH (i := 7) 59 (v := .pointer (some ⟨g, off + k * 5, none⟩)) rfl rfl (by kernel_rfl) (by kernel_rfl) (by kernel_rfl) (fun _ _ _ h => h) (Or.inl ⟨by rfl, ?_⟩) (by assumption) ?_
          · intro w' hSw'
            go_simp
          simp only [Act.put, List.setIfInBounds_toArray, List.set_cons_zero, List.set_cons_succ]
          refine takeH (i := 8) 60 (v := .agg #[.int .i64 xgen, .int .i64 xnext, .int .i64 xlog, .int .i64 xseq, .slice xp xn xc]) rfl rfl (by kernel_rfl) (by kernel_rfl) (by kernel_rfl) (fun _ _ _ h => h) (Or.inl ⟨by rfl, ?_⟩) (by assumption) ?_
          · intro w' hSw'
            obtain ⟨d0, d1, d2, d3, d4⟩ := CX.out w' hSw'
            go_simp
          simp only [Act.put, List.setIfInBounds_toArray, List.set_cons_zero, List.set_cons_succ]
          refine wpAnyH_ready (rs := [4]) (by kernel_rfl) (by simp) ?_
          refine AllReadyH.cons rfl (fun K hK => ?_) AllReadyH.nil
          go_simp
          refine (TH.out _ (Below.refl _ _).drew).mono ?_
          rintro e w7 ⟨u, rfl, hu, huv, hun, hb7⟩
          have b7 : Hid (Below W6.heap.size W6 w7) := ((Below.refl _ _).drew).trans (hb7.mono (Nat.le_refl _))
          have UH := keep hu
          have UV := keep huv
          have UN := keep hun
          have SMU := keep (SM.out u w7 b7.out UH.out UV.out UN.out)
          clear hu huv hun hb7
          go_wp2_with fail
          refine hK.out _ _ (b7.out) (fun hH1 => ?_)
          clear hK K
          refine wpAnyH_ready (rs := [9]) (by kernel_rfl) (by simp) ?_
          refine AllReadyH.cons rfl (fun K hK => ?_) AllReadyH.nil
          go_simp
          refine (SMU.out).mono ?_
          rintro e w8 ⟨rfl, hb8⟩
          have b8 : Hid (Below W6.heap.size W6 w8) := b7.out.trans (hb8.mono b7.out.size)
          clear hb8
          go_wp2_with fail
          refine hK.out _ _ (b8.out) (fun hH2 => ?_)
          clear hK K
          refine takeH (i := 10) 62 (v := .bool false) rfl rfl (by kernel_rfl) (by kernel_rfl) (by kernel_rfl) (fun _ _ _ h => h) (Or.inl ⟨by rfl, ?_⟩) (by assumption) ?_
          · intro w' hSw'
            go_simp
          simp only [Act.put, List.setIfInBounds_toArray, List.set_cons_zero, List.set_cons_succ]
          refine takeH (i := 11) 63 (v := .bool false) rfl rfl (by kernel_rfl) (by kernel_rfl) (by kernel_rfl) (fun _ _ _ h => h) (Or.inl ⟨by rfl, ?_⟩) (by assumption) ?_
          · intro w' hSw'
            go_simp
          simp only [Act.put, List.setIfInBounds_toArray, List.set_cons_zero, List.set_cons_succ]
          refine takeH (i := 12) 64 (v := .bool false) rfl rfl (by kernel_rfl) (by kernel_rfl) (by kernel_rfl) (fun _ _ _ h => h) (Or.inl ⟨by rfl, ?_⟩) (by assumption) ?_
          · intro w' hSw'
            go_simp
          simp only [Act.put, List.setIfInBounds_toArray, List.set_cons_zero, List.set_cons_succ]
          refine takeH (i := 13) 65 (v := .pointer (some ⟨b, 0, none⟩)) rfl rfl (by kernel_rfl) (by kernel_rfl) (by kernel_rfl) (fun _ _ _ h => h) (Or.inl ⟨by rfl, ?_⟩) (by assumption) ?_
          · intro w' hSw'
            go_simp
          simp only [Act.put, List.setIfInBounds_toArray, List.set_cons_zero, List.set_cons_succ]
          refine wpAnyH_ready (rs := [14]) (by kernel_rfl) (by simp) ?_
          refine AllReadyH.cons rfl (fun K hK => ?_) AllReadyH.nil
          go_simp
          refine (NM.out _ b8.out).mono ?_
          rintro e w9 ⟨⟨ao9, c9, rfl⟩, hb9⟩
          have b9 : Hid (Below W6.heap.size W6 w9) := b8.out.trans (hb9.mono b8.out.size)
          clear hb9
          go_wp2_with fail
          refine hK.out _ _ (b9.out) (fun hH3 => ?_)
          clear hK K
          refine takeH (i := 15) 67 (v := .int .i64 2) rfl rfl (by kernel_rfl) (by kernel_rfl) (by kernel_rfl) (fun _ _ _ h => h) (Or.inl ⟨by rfl, ?_⟩) (by assumption) ?_
          · intro w' hSw'
            go_simp
          simp only [Act.put, List.setIfInBounds_toArray, List.set_cons_zero, List.set_cons_succ]
          refine takeH (i := 16) 68 (v := .bool false) rfl rfl (by kernel_rfl) (by kernel_rfl) (by kernel_rfl) (fun _ _ _ h => h) (Or.inl ⟨by rfl, ?_⟩) (by assumption) ?_
          · intro w' hSw'
            go_simp
          simp only [Act.put, List.setIfInBounds_toArray, List.set_cons_zero, List.set_cons_succ]
          refine takeH (i := 17) 69 (v := .bool false) rfl rfl (by kernel_rfl) (by kernel_rfl) (by kernel_rfl) (fun _ _ _ h => h) (Or.inl ⟨by rfl, ?_⟩) (by assumption) ?_
          · intro w' hSw'
            go_simp
          simp only [Act.put, List.setIfInBounds_toArray, List.set_cons_zero, List.set_cons_succ]
          refine wpAnyH_done (by kernel_rfl) ?_ _
          have I9 := keep (I6.out.next b9.out)
          go_wp2
          go_roundw
          case rel => exact ⟨k + 1, D4, by omega, by omega, by go_num, I9.out⟩
          case measure => simp [intOf]; omega
      · have lt : ¬ (k : Int) < 10 := by omega
        go_wp2
        go_ret
        exact ⟨rfl, BW.out⟩
    · have ll : ¬ (k : Int) < (n : Int) := by omega
      go_wp2
      go_ret
      exact ⟨rfl, BW.out⟩
end Go.Proofs.YtgkchkdjcebnaaaGreatDoor
