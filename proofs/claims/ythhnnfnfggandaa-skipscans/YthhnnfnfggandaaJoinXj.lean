/- The walk of the document's Version. -/
/- What the program finds and what the document finds are the same, among entries in order; no walk. -/
/- Entries and heights of both lists, pair by pair; both Puts by them; no walk. -/
/- The walk of the document's Scan. -/
/- Both scans, and both levels, are the same among entries in order; no walk. -/
/- The walk of the document's Get. -/
import Derived.Test.YthhnnfnfggandaaXf
import Derived.Test.YthhnnfnfggandaaXi
import Derived.Test.YthhnnfnfggandaaVm
import Derived.Test.YthhnnfnfggandaaVi
import Derived.Test.YthhnnfnfggandaaSl
namespace Go.Proofs.Ythhnnfnfggandaa
open Go.RowKit
open Sk (Ent)

/-- Is it a version of the key, not above s? -/
def vers (key : List UInt8) (s : Int) (e : Ent) : Bool := decide (e.key = key) && decide (e.seq ≤ s)
theorem find_at {l : List Ent} {p : Ent → Bool} {k : Nat} {e : Ent} (hk : l[k]? = some e) (hp : p e = true) (hn : (l.take k).find? p = none) : l.find? p = some e := by
  obtain ⟨hl, he⟩ := List.getElem?_eq_some_iff.1 hk
  rw [← List.take_append_drop k l, List.find?_append, hn, List.drop_eq_getElem_cons hl, he]
  simp [hp]
theorem find_step {l : List Ent} {p : Ent → Bool} {k : Nat} {e : Ent} (hk : l[k]? = some e) (hp : p e = false) (hn : (l.take k).find? p = none) : (l.take (k + 1)).find? p = none := by
  rw [List.take_add_one, hk, List.find?_append, hn]
  simp [hp]
def verE (l : List Ent) (key : List UInt8) (s : Int) : Option Ent := l.find? (vers key s)
set_option maxHeartbeats 2000000 in
set_option maxRecDepth 100000 in
theorem rversion_any (ao : Option Addr) (N c : Nat) (ys : List EV) (kp : Option Addr) (kc : Nat) (key : List UInt8) (s : Int) (w : World) (hsrc : RSrc entKind w ao N c ys) (hMAY : ∀ y ∈ ys, y.e.key.length ≤ 64 ∧ y.e.val.length ≤ 1024) (hln : N ≤ 1000000) (hs : Src w kp key.length kc key) :
    Calls Try.prog 35 #[.slice ao N c, .slice kp key.length kc, .int .i64 s] w fun e w' => ∃ y : EV, e = .returned (.tuple #[ev y, .bool (verE (ys.map (·.e)) key s).isSome]) ∧ y.e = (verE (ys.map (·.e)) key s).getD zeroE ∧ OwnE w.heap.size w' y ∧ Below w.heap.size w w' := by
  have MAY := keep hMAY
  have SRC := keep hsrc
  have HS := keep hs
  have HN := keep hsrc.len
  have FULL : Hid ((ys.map (·.e)).take N = ys.map (·.e)) := List.take_of_length_le (by rw [List.length_map]; have := hsrc.len; omega)
  obtain ⟨W1, hW1⟩ : ∃ W1, w.alloc (.cells #[.slice none 0 0, .int .i64 0, .bool false, .slice none 0 0] 34) = W1 := ⟨_, rfl⟩
  have b1 : Hid (Below w.heap.size w W1) := by rw [← hW1]; exact (Below.refl _ _).alloc (Nat.le_refl _) _
  have g1 : Hid (W1.heap[w.heap.size]? = some (.cells #[.slice none 0 0, .int .i64 0, .bool false, .slice none 0 0] 34)) := by rw [← hW1]; exact heap_alloc_new w _
  have gl : Hid (w.heap.size < W1.heap.size) := by rw [← hW1]; show _ < _; simp
  clear hsrc hMAY hs
  go_enter Try.func35, Try.ntmps35
  go_wp2
  clear hW1
  go_loopw [8] (fun i wr => ∃ k : Nat, k ≤ N ∧ i = .int .i64 (k : Int) ∧ Hid (Below W1.heap.size W1 wr ∧ ((ys.map (·.e)).take k).find? (vers key s) = none)) (fun i _ => N - (intOf i).toNat)
  case atStart => exact ⟨0, Nat.zero_le _, rfl, Below.refl _ _, rfl⟩
  case round =>
    obtain ⟨k, hk, rfl, hI⟩ := hrel
    have HB := keep (b1.out.trans (hI.out.1.mono b1.out.size))
    by_cases hkn : k < N
    · obtain ⟨b, off, rfl, _, _⟩ := SRC.out.form entKind_ok (by omega)
      obtain ⟨y, hy⟩ : ∃ y, ys[k]? = some y := ⟨ys[k]'(by rw [HN.out]; exact hkn), List.getElem?_eq_getElem _⟩
      obtain ⟨p0, p1, p2, p3⟩ := ent_cells (SRC.out.below entKind_ok HB.out) hy
      have hyh := (SRC.out.below entKind_ok HB.out).held y (List.mem_of_getElem? hy)
      have hym := MAY.out y (List.mem_of_getElem? hy)
      have HY : Hid ((ys.map (·.e))[k]? = some y.e) := by show _ = _; rw [List.getElem?_map, hy]; rfl
      have v1 := fun n => conv_src (hyh.1.below (below_drewN (Below.refl _ wr) n))
      have v2 := fun n => conv_src ((HS.out.below HB.out).below (below_drewN (Below.refl _ wr) n))
      have CP : Hid (∀ n, _) := fun n => rcopy_any y (wr.drewN n) (by omega) (by omega) (entKind_ok.below hyh (below_drewN (Below.refl _ wr) n))
      obtain ⟨xkp, xkc, xvp, xvc, ⟨xkey, xseq, xgone, xval⟩⟩ := y
      unfold ev at CP
      simp only at p0 p1 p2 p3 CP HY v1 v2
      clear hy hyh hym
      have j0 : (0 : Int) ≤ (k : Int) := by omega
      have ll : (k : Int) < (N : Int) := by omega
      by_cases hq : xkey = key
      · by_cases hq2 : xseq ≤ s
        · have FA : Hid (verE (ys.map (·.e)) key s = some ⟨xkey, xseq, xgone, xval⟩) := (find_at HY.out (show vers key s ⟨xkey, xseq, xgone, xval⟩ = true from by unfold vers; simp [hq, hq2]) hI.out.2)
          have f1 : (xkey == key) = true := by simpa using hq
          clear hq
          go_wp2_with fail
          go_quiet (fail)
          go_wp2_with fail
          refine (CP.out _).mono ?_
          rintro e w5 ⟨y, rfl, hye, hyo, hb5⟩
          have bD := keep (hI.out.1.trans ((below_drewN (Below.refl _ wr) _).mono hI.out.1.size) |>.trans (hb5.mono hI.out.1.size))
          obtain ⟨ykp, ykc, yvp, yvc, ⟨ykey, yseq, ygone, yval⟩⟩ := y
          have G5 : Hid (w5.heap[w.heap.size]? = some (.cells #[.slice none 0 0, .int .i64 0, .bool false, .slice none 0 0] 34)) := (bD.out.block _ gl.out).trans g1.out
          have BL5 := keep (b1.out.trans (bD.out.mono b1.out.size))
          have HYE := keep hye
          have O5 := keep (hyo.base HB.out.size)
          have t0 : w5.cell? ⟨w.heap.size, 0, none⟩ = some (.slice none 0 0) := cell_of_row _ _ _ _ _ _ G5.out
          have t1 : w5.cell? ⟨w.heap.size, 1, none⟩ = some (.int .i64 0) := cell_of_row _ _ _ _ _ _ G5.out
          have t2 : w5.cell? ⟨w.heap.size, 2, none⟩ = some (.bool false) := cell_of_row _ _ _ _ _ _ G5.out
          have t3 : w5.cell? ⟨w.heap.size, 3, none⟩ = some (.slice none 0 0) := cell_of_row _ _ _ _ _ _ G5.out
          have f0 : w5.frozen? ⟨w.heap.size, 0, none⟩ = false := by simp [World.frozen?, G5.out]
          have f1 : w5.frozen? ⟨w.heap.size, 1, none⟩ = false := by simp [World.frozen?, G5.out]
          have f2 : w5.frozen? ⟨w.heap.size, 2, none⟩ = false := by simp [World.frozen?, G5.out]
          have f3 : w5.frozen? ⟨w.heap.size, 3, none⟩ = false := by simp [World.frozen?, G5.out]
          simp only
          clear hye hyo hb5 CP p0 p1 p2 p3
          go_wp2
          have far : ∀ {v : Value} {n : Nat} {xs : List Value}, w5.ownsRow w.heap.size 5 1 v n xs → ∀ g, v.ownBlock = some g → g ≠ w.heap.size := fun {v n xs} h g hg e => by
            obtain ⟨cur, hc⟩ := own_tag h hg
            rw [e, G5.out] at hc
            cases hc
          refine ⟨rfl, .tuple #[.agg #[.slice ykp ykey.length ykc, .int .i64 yseq, .bool ygone, .slice yvp yval.length yvc], .bool true], ?_, ⟨ykp, ykc, yvp, yvc, ⟨ykey, yseq, ygone, yval⟩⟩, ?_, ?_, ?_, ?_⟩
          · have s0 : (w5.setCell ⟨w.heap.size, 0, none⟩ (.slice ykp ykey.length ykc)).cell? ⟨w.heap.size, 0, none⟩ = some (.slice ykp ykey.length ykc) := World.cell?_setCell_same' _ _ _ (by simp [go_sem, t0])
            have s1 : ((w5.setCell ⟨w.heap.size, 0, none⟩ (.slice ykp ykey.length ykc)).setCell ⟨w.heap.size, 1, none⟩ (.int .i64 yseq)).cell? ⟨w.heap.size, 1, none⟩ = some (.int .i64 yseq) := World.cell?_setCell_same' _ _ _ (by simp [go_sem, t1])
            have s2 : (((w5.setCell ⟨w.heap.size, 0, none⟩ (.slice ykp ykey.length ykc)).setCell ⟨w.heap.size, 1, none⟩ (.int .i64 yseq)).setCell ⟨w.heap.size, 2, none⟩ (.bool ygone)).cell? ⟨w.heap.size, 2, none⟩ = some (.bool ygone) := World.cell?_setCell_same' _ _ _ (by simp [go_sem, t2])
            have s3 : ((((w5.setCell ⟨w.heap.size, 0, none⟩ (.slice ykp ykey.length ykc)).setCell ⟨w.heap.size, 1, none⟩ (.int .i64 yseq)).setCell ⟨w.heap.size, 2, none⟩ (.bool ygone)).setCell ⟨w.heap.size, 3, none⟩ (.slice yvp yval.length yvc)).cell? ⟨w.heap.size, 3, none⟩ = some (.slice yvp yval.length yvc) := World.cell?_setCell_same' _ _ _ (by simp [go_sem, t3])
            simp [results, Try.f35, go_sem, loadCells, loadCellsFrom, s0, s1, s2, s3]
          · rw [FA.out]; rfl
          · rw [FA.out]; exact HYE.out
          · refine ⟨?_, ?_⟩
            · refine own_block O5.out.1 (fun g hg => ?_)
              have h1 := far O5.out.1 g hg
              simp only [set_far _ _ h1]
            · refine own_block O5.out.2 (fun g hg => ?_)
              have h1 := far O5.out.2 g hg
              simp only [set_far _ _ h1]
          · exact ((((BL5.out.setCell (p := ⟨w.heap.size, 0, none⟩) (Nat.le_refl _) _).setCell (p := ⟨w.heap.size, 1, none⟩) (Nat.le_refl _) _).setCell (p := ⟨w.heap.size, 2, none⟩) (Nat.le_refl _) _).setCell (p := ⟨w.heap.size, 3, none⟩) (Nat.le_refl _) _)
        · have FS := keep (find_step HY.out (show vers key s ⟨xkey, xseq, xgone, xval⟩ = false from by unfold vers; simp [hq2]) hI.out.2)
          have f1 : (xkey == key) = true := by simpa using hq
          clear hq
          go_wp2_with fail
          go_quiet (fail)
          go_wp2
          go_roundw
          case rel => exact ⟨k + 1, by omega, by go_num, hI.out.1.trans ((below_drewN (Below.refl _ wr) _).mono hI.out.1.size), FS.out⟩
          case measure => simp [intOf]; omega
      · have FS := keep (find_step HY.out (show vers key s ⟨xkey, xseq, xgone, xval⟩ = false from by unfold vers; simp [hq]) hI.out.2)
        have f1 : (xkey == key) = false := by simpa using hq
        clear hq
        go_wp2_with fail
        go_quiet (fail)
        go_wp2
        go_roundw
        case rel => exact ⟨k + 1, by omega, by go_num, hI.out.1.trans ((below_drewN (Below.refl _ wr) _).mono hI.out.1.size), FS.out⟩
        case measure => simp [intOf]; omega
    · obtain rfl : k = N := by omega
      have ll : ¬ (k : Int) < (k : Int) := by omega
      have G5 : Hid (wr.heap[w.heap.size]? = some (.cells #[.slice none 0 0, .int .i64 0, .bool false, .slice none 0 0] 34)) := (hI.out.1.block _ gl.out).trans g1.out
      have FN : Hid (verE (ys.map (·.e)) key s = none) := by rw [← FULL.out]; exact hI.out.2
      have t0 : wr.cell? ⟨w.heap.size, 0, none⟩ = some (.slice none 0 0) := cell_of_row _ _ _ _ _ _ G5.out
      have t1 : wr.cell? ⟨w.heap.size, 1, none⟩ = some (.int .i64 0) := cell_of_row _ _ _ _ _ _ G5.out
      have t2 : wr.cell? ⟨w.heap.size, 2, none⟩ = some (.bool false) := cell_of_row _ _ _ _ _ _ G5.out
      have t3 : wr.cell? ⟨w.heap.size, 3, none⟩ = some (.slice none 0 0) := cell_of_row _ _ _ _ _ _ G5.out
      have f0 : wr.frozen? ⟨w.heap.size, 0, none⟩ = false := by simp [World.frozen?, G5.out]
      have f1 : wr.frozen? ⟨w.heap.size, 1, none⟩ = false := by simp [World.frozen?, G5.out]
      have f2 : wr.frozen? ⟨w.heap.size, 2, none⟩ = false := by simp [World.frozen?, G5.out]
      have f3 : wr.frozen? ⟨w.heap.size, 3, none⟩ = false := by simp [World.frozen?, G5.out]
      go_wp2
      refine ⟨rfl, .tuple #[ev evZ, .bool false], ?_, evZ, ?_, ?_, ⟨World.ownsRow_nil _ _ _ _, World.ownsRow_nil _ _ _ _⟩, ?_⟩
      · have s0 : (wr.setCell ⟨w.heap.size, 0, none⟩ (.slice none 0 0)).cell? ⟨w.heap.size, 0, none⟩ = some (.slice none 0 0) := World.cell?_setCell_same' _ _ _ (by simp [go_sem, t0])
        have s1 : ((wr.setCell ⟨w.heap.size, 0, none⟩ (.slice none 0 0)).setCell ⟨w.heap.size, 1, none⟩ (.int .i64 0)).cell? ⟨w.heap.size, 1, none⟩ = some (.int .i64 0) := World.cell?_setCell_same' _ _ _ (by simp [go_sem, t1])
        have s2 : (((wr.setCell ⟨w.heap.size, 0, none⟩ (.slice none 0 0)).setCell ⟨w.heap.size, 1, none⟩ (.int .i64 0)).setCell ⟨w.heap.size, 2, none⟩ (.bool false)).cell? ⟨w.heap.size, 2, none⟩ = some (.bool false) := World.cell?_setCell_same' _ _ _ (by simp [go_sem, t2])
        have s3 : ((((wr.setCell ⟨w.heap.size, 0, none⟩ (.slice none 0 0)).setCell ⟨w.heap.size, 1, none⟩ (.int .i64 0)).setCell ⟨w.heap.size, 2, none⟩ (.bool false)).setCell ⟨w.heap.size, 3, none⟩ (.slice none 0 0)).cell? ⟨w.heap.size, 3, none⟩ = some (.slice none 0 0) := World.cell?_setCell_same' _ _ _ (by simp [go_sem, t3])
        simp [results, Try.f35, go_sem, loadCells, loadCellsFrom, s0, s1, s2, s3, ev, evZ]
      · rw [FN.out]; rfl
      · rw [FN.out]; rfl
      · exact ((((HB.out.setCell (p := ⟨w.heap.size, 0, none⟩) (Nat.le_refl _) _).setCell (p := ⟨w.heap.size, 1, none⟩) (Nat.le_refl _) _).setCell (p := ⟨w.heap.size, 2, none⟩) (Nat.le_refl _) _).setCell (p := ⟨w.heap.size, 3, none⟩) (Nat.le_refl _) _)
end Go.Proofs.Ythhnnfnfggandaa
namespace Go.Proofs.Ythhnnfnfggandaa.Sk
open Go.Proofs.Ythhnnfnfggandaa

/-- Among entries in order, the first one that does not go ahead of (key, s) is the version, if it is of the key. -/
theorem hit_vers {l : List Ent} (h : Up l) (key : List UInt8) (s : Int) : hitE l key s = verE l key s := by
  obtain ⟨hk, hc⟩ := cut_count (ahead_down key s) h
  have before : ∀ i e, l[i]? = some e → i < count (aheadOf key s) l → vers key s e = false := fun i e he hi => by
    have ha := (hc i e he).2 hi
    unfold aheadOf at ha
    unfold vers
    by_cases hq : e.key = key
    · rw [if_pos hq] at ha
      have := of_decide_eq_true ha
      rw [decide_eq_true hq, Bool.true_and, decide_eq_false (by omega)]
    · rw [decide_eq_false hq, Bool.false_and]
  have none_before : (l.take (count (aheadOf key s) l)).find? (vers key s) = none := by
    rw [List.find?_eq_none]
    intro e he
    obtain ⟨i, hi⟩ := List.getElem?_of_mem he
    rw [List.getElem?_take] at hi
    split at hi
    · rename_i hlt
      rw [before i e hi hlt]
      exact Bool.false_ne_true
    · cases hi
  unfold hitE verE
  cases hx : l[count (aheadOf key s) l]? with
  | none =>
    have hlen := List.getElem?_eq_none_iff.1 hx
    rw [List.take_of_length_le hlen] at none_before
    exact none_before.symm
  | some e =>
    have hna : ¬ aheadOf key s e = true := fun ha => absurd ((hc _ e hx).1 ha) (Nat.lt_irrefl _)
    simp only
    by_cases hq : e.key = key
    · rw [if_pos hq]
      refine (find_at hx ?_ none_before).symm
      unfold aheadOf at hna
      rw [if_pos hq] at hna
      unfold vers
      rw [decide_eq_true hq, Bool.true_and]
      refine decide_eq_true ?_
      have : ¬ s < e.seq := fun hl => hna (decide_eq_true hl)
      omega
    · rw [if_neg hq]
      symm
      rw [List.find?_eq_none]
      intro y hy
      obtain ⟨i, hi⟩ := List.getElem?_of_mem hy
      rcases Nat.lt_trichotomy i (count (aheadOf key s) l) with h1 | h1 | h1
      · rw [before i y hi h1]; exact Bool.false_ne_true
      · subst h1
        rw [hx] at hi
        cases hi
        unfold vers
        rw [decide_eq_false hq, Bool.false_and]
        exact Bool.false_ne_true
      · intro hv
        unfold vers at hv
        rw [Bool.and_eq_true] at hv
        have hyk := of_decide_eq_true hv.1
        have hil := (List.getElem?_eq_some_iff.1 hi).1
        have hp := List.pairwise_iff_getElem.1 (up_pair.1 h) _ i (by omega) hil h1
        rw [(List.getElem?_eq_some_iff.1 hx).2, (List.getElem?_eq_some_iff.1 hi).2] at hp
        unfold Goes aheadOf at hp
        rw [if_neg (by rw [hyk]; exact hq)] at hp
        unfold aheadOf at hna
        rw [if_neg hq] at hna
        rw [hyk] at hp
        exact hna hp
end Go.Proofs.Ythhnnfnfggandaa.Sk
namespace Go.Proofs.Ythhnnfnfggandaa
open Go.RowKit
open Sk (Ent)

/-- Entries, and how high they are. -/
def hts (ns : List Nd) : List (Ent × Int) := ns.map fun n => (n.x.e, (n.h : Int))
def rts (ys : List EV) (hs : List Int) : List (Ent × Int) := (ys.map (·.e)).zip hs
theorem hts_fst (ns : List Nd) : (hts ns).map Prod.fst = ents ns := by simp [hts, ents, List.map_map, Function.comp_def]
theorem hts_length (ns : List Nd) : (hts ns).length = ns.length := by simp [hts]
theorem rts_fst {ys : List EV} {hs : List Int} (h : ys.length = hs.length) : (rts ys hs).map Prod.fst = ys.map (·.e) := by
  unfold rts
  rw [List.map_fst_zip (by rw [List.length_map, h]; exact Nat.le_refl _)]
def putP (l : List (Ent × Int)) (e : Ent) (h : Int) : List (Ent × Int) := if putOk (l.map Prod.fst) e h then l.take (Sk.at_ (l.map Prod.fst) e) ++ (e, h) :: l.drop (Sk.at_ (l.map Prod.fst) e) else l
theorem putP_length (l : List (Ent × Int)) (e : Ent) (h : Int) : (putP l e h).length ≤ l.length + 1 := by
  unfold putP
  split
  · simp only [List.length_append, List.length_take, List.length_cons, List.length_drop]; omega
  · omega
theorem putP_low {l : List (Ent × Int)} {e : Ent} {h : Int} (hl : ∀ p ∈ l, p.2 ≤ 12) : ∀ p ∈ putP l e h, p.2 ≤ 12 := by
  unfold putP
  split
  · rename_i ho
    unfold putOk at ho
    simp only [Bool.and_eq_true, decide_eq_true_eq] at ho
    intro p hp
    rcases List.mem_append.1 hp with hp | hp
    · exact hl p (List.mem_of_mem_take hp)
    · rcases List.mem_cons.1 hp with rfl | hp
      · exact ho.1.2.2
      · exact hl p (List.mem_of_mem_drop hp)
  · exact hl
theorem zip_ins (l : List Ent) (hs : List Int) (k : Nat) (e : Ent) (h : Int) (hl : l.length = hs.length) : (l.take k ++ e :: l.drop k).zip (hs.take k ++ h :: hs.drop k) = (l.zip hs).take k ++ (e, h) :: (l.zip hs).drop k := by
  rw [List.zip_append (by rw [List.length_take, List.length_take, hl]), List.zip_cons_cons]
  unfold List.zip
  rw [List.take_zipWith, List.drop_zipWith]
theorem put_pair (B b : Nat) (ns : List Nd) (x : EV) (hgt : Int) (w : World) (hM : LMem B w b ns) (hBw : B ≤ w.heap.size) (hln : ns.length ≤ 1000000) (hx : entKind.held w x) (hk : x.e.key.length ≤ 9223372036854775807) (hv : x.e.val.length ≤ 9223372036854775807) :
    Calls Try.prog 15 #[.pointer (some ⟨b, 0, none⟩), ev x, .int .i64 hgt] w fun e w' => e = .returned (.int .i64 (putN ((hts ns).map Prod.fst) x.e hgt)) ∧ ∃ ns', LMem B w' b ns' ∧ hts ns' = putP (hts ns) x.e hgt ∧ Kept (foot b ns) w w' := by
  rw [hts_fst]
  have bad : ∀ (h : putOk (ents ns) x.e hgt = false) (e : Ending) (w' : World), e = .returned (.int .i64 1) → Below w.heap.size w w' → e = .returned (.int .i64 (putN (ents ns) x.e hgt)) ∧ ∃ ns', LMem B w' b ns' ∧ hts ns' = putP (hts ns) x.e hgt ∧ Kept (foot b ns) w w' := fun h e w' he hb => by
    refine ⟨by rw [he]; unfold putN; rw [h]; rfl, ns, hM.below hb, by unfold putP; rw [hts_fst, h]; rfl, Kept.of_below hb⟩
  cases hm : Sk.may x.e with
  | false =>
    refine (put_bad b x hgt w hk hv (.inl hm)).mono ?_
    rintro e w' ⟨he, hb⟩
    exact bad (by unfold putOk; rw [hm]; rfl) e w' he hb
  | true =>
    by_cases hh : 1 ≤ hgt ∧ hgt ≤ 12
    · obtain ⟨n, hn⟩ : ∃ n : Nat, hgt = (n : Int) := ⟨hgt.toNat, by omega⟩
      subst hn
      have hd : (decide ((1 : Int) ≤ (n : Int)) && decide ((n : Int) ≤ 12)) = true := by simp; omega
      cases ht : Sk.there (ents ns) x.e with
      | true =>
        refine (put_there B b ns x n w hM hx hm (by omega) (by omega) ht).mono ?_
        rintro e w' ⟨he, hb⟩
        exact bad (by unfold putOk; rw [ht]; simp) e w' he hb
      | false =>
        have hok : putOk (ents ns) x.e (n : Int) = true := by unfold putOk; rw [hm, hd, ht]; rfl
        refine (put_new B b ns x n w hM hBw hln hx hm (by omega) (by omega) ht).mono ?_
        rintro e w' ⟨he, m, h1, h2, h3, h4, h5⟩
        refine ⟨by rw [he]; unfold putN; rw [hok]; rfl, _, h4, ?_, h5⟩
        unfold putP
        rw [hts_fst, hok, if_pos rfl, ← place_at]
        simp only [hts, List.map_append, List.map_cons, List.map_take, List.map_drop, h1, h2]
    · have hd : (decide (1 ≤ hgt) && decide (hgt ≤ 12)) = false := by
        cases hq : (decide (1 ≤ hgt) && decide (hgt ≤ 12)) with
        | false => rfl
        | true => exact absurd (by simpa using hq) hh
      refine (put_bad b x hgt w hk hv (.inr hh)).mono ?_
      rintro e w' ⟨he, hb⟩
      exact bad (by unfold putOk; rw [hd]; simp) e w' he hb
/-- Blocks that are neither the document's list's nor rows of its kinds may turn. -/
theorem RMem.kept {B : Nat} {w w' : World} {r : Nat} {ys : List EV} {hs : List Int} {U : Nat → Prop} (h : RMem B w r ys hs) (hk : Kept U w w') (hU : ∀ g, U g → g < w.heap.size → g ≠ r ∧ ∃ c t, w.heap[g]? = some (.cells c t (0, 0)) ∧ t ≠ 5 ∧ t ≠ 34 ∧ t ≠ 3) : RMem B w' r ys hs := by
  obtain ⟨vL, vH, h1, h2, h3⟩ := h.row
  have tg : ∀ (g : Nat) (c : Array Value) (t : TypeId), w.heap[g]? = some (.cells c t (0, 0)) → (t = 5 ∨ t = 34 ∨ t = 3) → w'.heap[g]? = w.heap[g]? := fun g c t hc ht => hk.block g (Array.getElem?_eq_some_iff.1 hc).1 (fun e => by
    obtain ⟨_, c', t', h4, h5, h6, h7⟩ := hU g e (Array.getElem?_eq_some_iff.1 hc).1
    rw [hc] at h4
    cases h4
    rcases ht with ht | ht | ht
    · exact h5 ht
    · exact h6 ht
    · exact h7 ht)
  have hrl := (Array.getElem?_eq_some_iff.1 h1).1
  refine ⟨h.ge, ⟨vL, vH, (hk.block r hrl (fun e => (hU r e hrl).1 rfl)).trans h1, ⟨own_block h2.row (fun g hg => ?_), fun y hy => (h2.each y hy).keepB (fun g c hc => tg g c 5 hc (.inl rfl))⟩, own_block h3 (fun g hg => ?_)⟩, h.len, h.up, h.may⟩
  · obtain ⟨c, hc⟩ := own_tag h2.row hg
    exact tg g c _ hc (.inr (.inl rfl))
  · obtain ⟨c, hc⟩ := own_tag h3 hg
    exact tg g c _ hc (.inr (.inr rfl))
theorem RMem.below {B : Nat} {w w' : World} {r : Nat} {ys : List EV} {hs : List Int} (h : RMem B w r ys hs) (hb : Below w.heap.size w w') : RMem B w' r ys hs := h.kept (U := fun _ => False) (Kept.of_below hb) (fun _ e => e.elim)
theorem rput_pair (B r : Nat) (ys : List EV) (hs : List Int) (x : EV) (hgt : Int) (w : World) (hM : RMem B w r ys hs) (hBw : B ≤ w.heap.size) (hln : ys.length ≤ 1000000) (hx : entKind.held w x) (hk : x.e.key.length ≤ 9223372036854775807) (hv : x.e.val.length ≤ 9223372036854775807) :
    Calls Try.prog 16 #[.pointer (some ⟨r, 0, none⟩), ev x, .int .i64 hgt] w fun e w' => e = .returned (.int .i64 (putN ((rts ys hs).map Prod.fst) x.e hgt)) ∧ ∃ ys' hs', RMem B w' r ys' hs' ∧ rts ys' hs' = putP (rts ys hs) x.e hgt ∧ Kept (· = r) w w' := by
  rw [rts_fst hM.len]
  have bad : ∀ (h : putOk (ys.map (·.e)) x.e hgt = false) (e : Ending) (w' : World), e = .returned (.int .i64 1) → Below w.heap.size w w' → e = .returned (.int .i64 (putN (ys.map (·.e)) x.e hgt)) ∧ ∃ ys' hs', RMem B w' r ys' hs' ∧ rts ys' hs' = putP (rts ys hs) x.e hgt ∧ Kept (· = r) w w' := fun h e w' he hb => by
    refine ⟨by rw [he]; unfold putN; rw [h]; rfl, ys, hs, hM.below hb, by unfold putP; rw [rts_fst hM.len, h]; rfl, Kept.of_below hb⟩
  cases hm : Sk.may x.e with
  | false =>
    refine (rput_bad r x hgt w hk hv (.inl hm)).mono ?_
    rintro e w' ⟨he, hb⟩
    exact bad (by unfold putOk; rw [hm]; rfl) e w' he hb
  | true =>
    by_cases hh : 1 ≤ hgt ∧ hgt ≤ 12
    · have hd : (decide ((1 : Int) ≤ hgt) && decide (hgt ≤ 12)) = true := by simp; omega
      cases ht : Sk.there (ys.map (·.e)) x.e with
      | true =>
        refine (rput_there B r ys hs x hgt w hM hln hx hm hh.1 hh.2 ht).mono ?_
        rintro e w' ⟨he, hb⟩
        exact bad (by unfold putOk; rw [ht]; simp) e w' he hb
      | false =>
        have hok : putOk (ys.map (·.e)) x.e hgt = true := by unfold putOk; rw [hm, hd, ht]; rfl
        refine (rput_new B r ys hs x hgt w hM hBw hln hx hm hh.1 hh.2 ht).mono ?_
        rintro e w' ⟨he, y, h1, h2, h3⟩
        refine ⟨by rw [he]; unfold putN; rw [hok]; rfl, _, _, h2, ?_, h3⟩
        unfold putP
        rw [rts_fst hM.len, hok, if_pos rfl]
        unfold rts
        rw [List.map_append, List.map_cons, List.map_take, List.map_drop, h1]
        exact zip_ins _ _ _ _ _ (by rw [List.length_map]; exact hM.len)
    · have hd : (decide (1 ≤ hgt) && decide (hgt ≤ 12)) = false := by
        cases hq : (decide (1 ≤ hgt) && decide (hgt ≤ 12)) with
        | false => rfl
        | true => exact absurd (by simpa using hq) hh
      refine (rput_bad r x hgt w hk hv (.inr hh)).mono ?_
      rintro e w' ⟨he, hb⟩
      exact bad (by unfold putOk; rw [hd]; simp) e w' he hb
/-- Both lists: what is in them, and how high, is the same. -/
structure Twin (w0 : World) (l : Nat) (ns : List Nd) (r : Nat) (ys : List EV) (hs : List Int) (w : World) : Prop where
  one : LMem w0.heap.size w l ns
  two : RMem w0.heap.size w r ys hs
  same : hts ns = rts ys hs
  low : ∀ p ∈ hts ns, p.2 ≤ 12
  bel : Below w0.heap.size w0 w
theorem LMem.tag4 {B : Nat} {w : World} {b : Nat} {ns : List Nd} (h : LMem B w b ns) {g : Nat} (hg : foot b ns g) : ∃ c t, w.heap[g]? = some (.cells c t (0, 0)) ∧ t ≠ 5 ∧ t ≠ 34 ∧ t ≠ 3 ∧ t ≠ 31 ∧ t ≠ 36 := by
  rcases hg with rfl | ⟨n, hn, rfl⟩
  · obtain ⟨c, hc⟩ := h.tagB; exact ⟨c, _, hc, by decide, by decide, by decide, by decide, by decide⟩
  · obtain ⟨c, hc⟩ := h.tagN n hn; exact ⟨c, _, hc, by decide, by decide, by decide, by decide, by decide⟩
section
variable {w0 w w' : World} {l r : Nat} {ns : List Nd} {ys : List EV} {hs : List Int}
theorem Twin.below (h : Twin w0 l ns r ys hs w) (hb : Below w.heap.size w w') : Twin w0 l ns r ys hs w' := ⟨h.one.below hb, h.two.below hb, h.same, h.low, h.bel.trans (hb.mono h.bel.size)⟩
theorem Twin.tag (h : Twin w0 l ns r ys hs w) : ∃ c, w.heap[r]? = some (.cells c 31 (0, 0)) := by
  obtain ⟨vL, vH, h1, _⟩ := h.two.row
  exact ⟨_, h1⟩
theorem Twin.ents (h : Twin w0 l ns r ys hs w) : ents ns = ys.map (·.e) := by
  rw [← hts_fst, h.same, rts_fst h.two.len]
theorem Twin.len (h : Twin w0 l ns r ys hs w) : ns.length = ys.length := by
  have := congrArg List.length h.ents
  simpa [Go.Proofs.Ythhnnfnfggandaa.ents] using this
/-- skip's list has been put to. -/
theorem Twin.putL (h : Twin w0 l ns r ys hs w) (hk : Kept (foot l ns) w w') : RMem w0.heap.size w' r ys hs := h.two.kept hk (fun g hg hl => by
  obtain ⟨c, t, h1, h2, h3, h4, h5, _⟩ := h.one.tag4 hg
  refine ⟨fun e => ?_, c, t, h1, h2, h3, h4⟩
  obtain ⟨c', h6⟩ := h.tag
  rw [e, h6] at h1
  simp only [Option.some.injEq, Obj.cells.injEq] at h1
  exact h5 h1.2.1.symm)
/-- The document's list has been put to. -/
theorem putR_one {B : Nat} (h1 : LMem B w l ns) (htag : ∃ c, w.heap[r]? = some (.cells c 31 (0, 0))) (hk : Kept (· = r) w w') : LMem B w' l ns := h1.kept hk (fun g e _ => by
  subst e
  obtain ⟨c, hc⟩ := htag
  refine ⟨fun hf => ?_, c, _, hc, by decide⟩
  obtain ⟨c', t, h2, _, _, _, h5, _⟩ := h1.tag4 hf
  rw [hc] at h2
  simp only [Option.some.injEq, Obj.cells.injEq] at h2
  exact h5 h2.2.1.symm)
end
end Go.Proofs.Ythhnnfnfggandaa
namespace Go.Proofs.Ythhnnfnfggandaa
open Go.RowKit
open Sk (Ent)

/-- Is it out of the scan's bounds? -/
def outB (from_ to : List UInt8) (s : Int) (e : Ent) : Bool := less e.key from_ || (decide (0 < to.length) && !less e.key to) || decide (s < e.seq)
def dstep (from_ to : List UInt8) (s : Int) (acc : List Ent) (e : Ent) : List Ent := if outB from_ to s e then acc else if lastKey acc = some e.key then acc else acc ++ [e]
def dscan (l : List Ent) (from_ to : List UInt8) (s : Int) : List Ent := l.foldl (dstep from_ to s) []
theorem dscan_more {l : List Ent} {k : Nat} {e : Ent} (h : l[k]? = some e) (from_ to : List UInt8) (s : Int) : dscan (l.take (k + 1)) from_ to s = dstep from_ to s (dscan (l.take k) from_ to s) e := by
  unfold dscan
  rw [List.take_add_one, h, List.foldl_append]
  rfl
set_option maxHeartbeats 2000000 in
set_option maxRecDepth 100000 in
theorem rscan_any (ao : Option Addr) (N c : Nat) (ys : List EV) (fp : Option Addr) (fc : Nat) (from_ : List UInt8) (tp : Option Addr) (tc : Nat) (to : List UInt8) (s : Int) (w : World) (hsrc : RSrc entKind w ao N c ys) (hMAY : ∀ y ∈ ys, y.e.key.length ≤ 64 ∧ y.e.val.length ≤ 1024) (hln : N ≤ 1000000) (hf : Src w fp from_.length fc from_) (ht : Src w tp to.length tc to) (hfl : from_.length ≤ 140737488355328) (htl : to.length ≤ 140737488355328) :
    Calls Try.prog 36 #[.slice ao N c, .slice fp from_.length fc, .slice tp to.length tc, .int .i64 s] w fun e w' => ∃ v zs, e = .returned v ∧ Ents w.heap.size w' v zs ∧ zs.map (·.e) = dscan (ys.map (·.e)) from_ to s ∧ Below w.heap.size w w' := by
  have MAY := keep hMAY
  obtain ⟨i0, hi0, hz0, hz1, hz2⟩ := info_parts3 infoE
  have SRC := keep hsrc
  have HF := keep hf
  have HT := keep ht
  have HN := keep hsrc.len
  have FULL : Hid ((ys.map (·.e)).take N = ys.map (·.e)) := List.take_of_length_le (by rw [List.length_map]; have := hsrc.len; omega)
  clear hsrc hMAY hf ht
  go_enter Try.func36, Try.ntmps36
  go_wp2
  go_loopw [9, 10] (fun v i wr => ∃ (k : Nat) (zs : List EV), k ≤ N ∧ i = .int .i64 (k : Int) ∧ Hid (Ents w.heap.size wr v zs ∧ zs.map (·.e) = dscan ((ys.map (·.e)).take k) from_ to s ∧ Below w.heap.size w wr ∧ zs.length ≤ k)) (fun _ i _ => N - (intOf i).toNat)
  case atStart => exact ⟨0, [], Nat.zero_le _, rfl, Ents.nil _ _, rfl, Below.refl _ _, Nat.le_refl _⟩
  case round =>
    obtain ⟨k, zs, hk, rfl, hI⟩ := hrel
    have HB := keep hI.out.2.2.1
    by_cases hkn : k < N
    · obtain ⟨b, off, rfl, _, _⟩ := SRC.out.form entKind_ok (by omega)
      obtain ⟨y, hy⟩ : ∃ y, ys[k]? = some y := ⟨ys[k]'(by rw [HN.out]; exact hkn), List.getElem?_eq_getElem _⟩
      obtain ⟨p0, p1, p2, p3⟩ := ent_cells (SRC.out.below entKind_ok HB.out) hy
      have hyh := (SRC.out.below entKind_ok HB.out).held y (List.mem_of_getElem? hy)
      have hym := MAY.out y (List.mem_of_getElem? hy)
      have MORE := keep (dscan_more (l := ys.map (·.e)) (k := k) (e := y.e) (by rw [List.getElem?_map, hy]; rfl) from_ to s)
      obtain ⟨xkp, xkc, xvp, xvc, ⟨xkey, xseq, xgone, xval⟩⟩ := y
      simp only at p0 p1 p2 p3 MORE hym
      have HYH : Hid (entKind.held wr ⟨xkp, xkc, xvp, xvc, ⟨xkey, xseq, xgone, xval⟩⟩) := hyh
      clear hy hyh
      have j0 : (0 : Int) ≤ (k : Int) := by omega
      have ll : (k : Int) < (N : Int) := by omega
      obtain ⟨av, cv, rfl, hRV, _⟩ := RSrc.own entKind_ok hI.out.1.row (fun z hz => (hI.out.1.each z hz).held)
      obtain ⟨M, hM⟩ : ∃ M, zs.length = M := ⟨_, rfl⟩
      have HM := keep hM
      have zl : M ≤ 1000000 := by have := hI.out.2.2.2; omega
      rw [hM] at hRV ⊢
      have RV := keep hRV
      clear hRV hM
      obtain ⟨W2, hW2⟩ : ∃ W2, wr.alloc (.cells #[.slice xkp xkey.length xkc, .int .i64 xseq, .bool xgone, .slice xvp xval.length xvc] 34) = W2 := ⟨_, rfl⟩
      have b2 : Hid (Below wr.heap.size wr W2) := by rw [← hW2]; exact (Below.refl _ _).alloc (Nat.le_refl _) _
      have g2 : Hid (W2.heap[wr.heap.size]? = some (.cells #[.slice xkp xkey.length xkc, .int .i64 xseq, .bool xgone, .slice xvp xval.length xvc] 34)) := by rw [← hW2]; exact heap_alloc_new wr _
      have gl : Hid (wr.heap.size < W2.heap.size) := by rw [← hW2]; show _ < _; simp
      have EC : Hid (∀ w', Below W2.heap.size W2 w' → w'.cell? ⟨wr.heap.size, 0, none⟩ = some (.slice xkp xkey.length xkc) ∧ w'.cell? ⟨wr.heap.size, 1, none⟩ = some (.int .i64 xseq) ∧ w'.cell? ⟨wr.heap.size, 2, none⟩ = some (.bool xgone) ∧ w'.cell? ⟨wr.heap.size, 3, none⟩ = some (.slice xvp xval.length xvc)) := fun w' hb => by
        have h := (hb.block _ gl.out).trans g2.out
        exact ⟨cell_of_row _ _ _ _ _ _ h, cell_of_row _ _ _ _ _ _ h, cell_of_row _ _ _ _ _ _ h, cell_of_row _ _ _ _ _ _ h⟩
      have LF : Hid (∀ w', Below W2.heap.size W2 w' → Calls Try.prog 12 #[.slice xkp xkey.length xkc, .slice fp from_.length fc] w' fun e w'' => e = .returned (.bool (less xkey from_)) ∧ Below W2.heap.size W2 w'') := fun w' hb => by
        have hb' := b2.out.trans (hb.mono b2.out.size)
        refine (refLess_any xkp xkey.length xkc xkey fp from_.length fc from_ w' (by omega) hfl (HYH.out.1.below hb') (HF.out.below (HB.out.trans (hb'.mono HB.out.size)))).mono ?_
        rintro e w'' ⟨rfl, h2⟩
        exact ⟨rfl, hb.trans (h2.mono hb.size)⟩
      have LT : Hid (∀ w', Below W2.heap.size W2 w' → Calls Try.prog 12 #[.slice xkp xkey.length xkc, .slice tp to.length tc] w' fun e w'' => e = .returned (.bool (less xkey to)) ∧ Below W2.heap.size W2 w'') := fun w' hb => by
        have hb' := b2.out.trans (hb.mono b2.out.size)
        refine (refLess_any xkp xkey.length xkc xkey tp to.length tc to w' (by omega) htl (HYH.out.1.below hb') (HT.out.below (HB.out.trans (hb'.mono HB.out.size)))).mono ?_
        rintro e w'' ⟨rfl, h2⟩
        exact ⟨rfl, hb.trans (h2.mono hb.size)⟩
      have STAY : Hid (∀ w', Below W2.heap.size W2 w' → dstep from_ to s (dscan ((ys.map (·.e)).take k) from_ to s) ⟨xkey, xseq, xgone, xval⟩ = dscan ((ys.map (·.e)).take k) from_ to s → ∃ (k' : Nat) (zs' : List EV), k' ≤ N ∧ (Value.int .i64 ((k : Int) + 1)) = .int .i64 (k' : Int) ∧ Hid (Ents w.heap.size w' (.slice av M cv) zs' ∧ zs'.map (·.e) = dscan ((ys.map (·.e)).take k') from_ to s ∧ Below w.heap.size w w' ∧ zs'.length ≤ k')) := fun w' hb hd => by
        have hb' := b2.out.trans (hb.mono b2.out.size)
        exact ⟨k + 1, zs, by omega, by go_num, (by rw [← HM.out]; exact hI.out.1.below hb'), by rw [MORE.out, hd]; exact hI.out.2.1, HB.out.trans (hb'.mono HB.out.size), Nat.le_succ_of_le hI.out.2.2.2⟩
      cases hA : less xkey from_ with
      | true =>
        have HA := keep hA
        rw [hA] at LF
        clear hA
        obtain ⟨e0, e1, e2, e3⟩ := EC.out W2 (Below.refl _ _)
        go_wp2_with fail
        refine (LF.out W2 (Below.refl _ _)).mono ?_
        rintro e w3 ⟨rfl, hb3⟩
        have b3 := keep hb3
        clear e0 e1 e2 e3
        obtain ⟨e0, e1, e2, e3⟩ := EC.out w3 hb3
        clear hb3 hW2
        go_wp2
        go_roundw
        case rel => exact STAY.out w3 b3.out (by unfold dstep; rw [if_pos (show outB from_ to s ⟨xkey, xseq, xgone, xval⟩ = true from by unfold outB; rw [HA.out]; rfl)])
        case measure => simp [intOf]; omega
      | false =>
        have HA := keep hA
        rw [hA] at LF
        clear hA
        by_cases hto : 0 < to.length
        · have hto2 : 0 < (to.length : Int) := by omega
          cases hC : less xkey to with
          | false =>
            have HC := keep hC
            rw [hC] at LT
            clear hC
            obtain ⟨e0, e1, e2, e3⟩ := EC.out W2 (Below.refl _ _)
            go_wp2_with fail
            refine (LF.out W2 (Below.refl _ _)).mono ?_
            rintro e w3 ⟨rfl, hb3⟩
            have b3 := keep hb3
            clear e0 e1 e2 e3
            obtain ⟨e0, e1, e2, e3⟩ := EC.out w3 hb3
            clear hb3 hW2
            go_wp2_with fail
            refine (LT.out w3 b3.out).mono ?_
            rintro e w4 ⟨rfl, hb4⟩
            have b4 := keep hb4
            clear e0 e1 e2 e3
            obtain ⟨e0, e1, e2, e3⟩ := EC.out w4 hb4
            clear hb4
            go_wp2
            go_roundw
            case rel => exact STAY.out w4 b4.out (by unfold dstep; rw [if_pos (show outB from_ to s ⟨xkey, xseq, xgone, xval⟩ = true from by unfold outB; rw [HC.out, decide_eq_true hto]; simp)])
            case measure => simp [intOf]; omega
          | true =>
            have HC := keep hC
            rw [hC] at LT
            clear hC
            by_cases hs : s < xseq
            · obtain ⟨e0, e1, e2, e3⟩ := EC.out W2 (Below.refl _ _)
              go_wp2_with fail
              refine (LF.out W2 (Below.refl _ _)).mono ?_
              rintro e w3 ⟨rfl, hb3⟩
              have b3 := keep hb3
              clear e0 e1 e2 e3
              obtain ⟨e0, e1, e2, e3⟩ := EC.out w3 hb3
              clear hb3 hW2
              go_wp2_with fail
              refine (LT.out w3 b3.out).mono ?_
              rintro e w4 ⟨rfl, hb4⟩
              have b4 := keep hb4
              clear e0 e1 e2 e3
              obtain ⟨e0, e1, e2, e3⟩ := EC.out w4 hb4
              clear hb4
              go_wp2
              go_roundw
              case rel => exact STAY.out w4 b4.out (by unfold dstep; rw [if_pos (show outB from_ to s ⟨xkey, xseq, xgone, xval⟩ = true from by unfold outB; rw [decide_eq_true hs]; simp)])
              case measure => simp [intOf]; omega
            · have HSQ := keep hs
              obtain ⟨e0, e1, e2, e3⟩ := EC.out W2 (Below.refl _ _)
              go_wp2_with fail
              refine (LF.out W2 (Below.refl _ _)).mono ?_
              rintro e w3 ⟨rfl, hb3⟩
              have b3 := keep hb3
              clear e0 e1 e2 e3
              obtain ⟨e0, e1, e2, e3⟩ := EC.out w3 hb3
              clear hb3 hW2
              go_wp2_with fail
              refine (LT.out w3 b3.out).mono ?_
              rintro e w4 ⟨rfl, hb4⟩
              have b4 := keep hb4
              clear e0 e1 e2 e3
              obtain ⟨e0, e1, e2, e3⟩ := EC.out w4 hb4
              clear hb4
              have IN : Hid (outB from_ to s ⟨xkey, xseq, xgone, xval⟩ = false) := by show _ = _; unfold outB; rw [HA.out, decide_eq_false (p := s < xseq) (by have := HSQ.out; omega)]; rw [HC.out]; simp
              have BX := keep (b2.out.trans (b4.out.mono b2.out.size))
              have CP : Hid (∀ w1, Below wr.heap.size wr w1 → Calls Try.prog 14 #[.agg #[.slice xkp xkey.length xkc, .int .i64 xseq, .bool xgone, .slice xvp xval.length xvc]] w1 fun e w2 => ∃ y : EV, e = .returned (ev y) ∧ y.e = ⟨xkey, xseq, xgone, xval⟩ ∧ OwnE wr.heap.size w2 y ∧ Below wr.heap.size wr w2) := fun w1 hb => by
                refine (rcopy_any ⟨xkp, xkc, xvp, xvc, ⟨xkey, xseq, xgone, xval⟩⟩ w1 (by simp only; omega) (by simp only; omega) (entKind_ok.below HYH.out hb)).mono ?_
                rintro e w2 ⟨y, rfl, h1, h2, h3⟩
                exact ⟨y, rfl, h1, h2.base hb.size, hb.trans (h3.mono hb.size)⟩
              clear LF LT EC g2
              cases M with
              | zero =>
                have LK : Hid (lastKey (zs.map (·.e)) ≠ some xkey) := by rw [List.length_eq_zero_iff.1 HM.out]; exact lastKey_none rfl _
                go_wp2_with fail
                go_quiet (fail)
                go_wp2_with fail
                refine (CP.out _ (BX.out.trans ((below_drewN (Below.refl _ _) _).mono BX.out.size))).mono ?_
                rintro e w5 ⟨y, rfl, hye, hyo, hb5⟩
                have HYE := keep hye
                have b5 := keep (hb5.alloc hb5.size (.cells (entKind.vals y).toArray 34))
                have E5 := keep (hI.out.1.below b5.out)
                have O5 := keep ((hyo.base HB.out.size).block ((Below.refl w5.heap.size w5).alloc (Nat.le_refl _) (.cells (entKind.vals y).toArray 34)))
                have BL5 := keep (HB.out.trans (b5.out.mono HB.out.size))
                have rc := keep (rec_cells (k := entKind) w5 34 y)
                obtain ⟨ykp, ykc, yvp, yvc, ⟨ykey, yseq, ygone, yval⟩⟩ := y
                simp only [entKind] at b5 E5 O5 BL5
                have ROW5 := keep E5.out.row
                rw [HM.out] at ROW5
                unfold ev
                simp only
                clear hye hyo hb5 CP e0 e1 e2 e3 p0 p1 p2 p3
                go_wp2_with (at_builtin; go_loud (refine wpList_append_rec entKind_ok rfl _ _ 28 34 rfl w.heap.size i0 _ 64 Try.underlying28 hi0 hz0 hz1 hz2 rfl _ (0) zs rfl ROW5.out _ 1 (⟨ykp, ykc, yvp, yvc, ⟨ykey, yseq, ygone, yval⟩⟩ : EV) rfl rc.out (by unfold maxLen; omega) (by omega) (Nat.le_trans BL5.out.size (Nat.le_refl _)) ?_); intro v6 w6 ho6 hg6; have HO6 := keep ho6; have HG6 := keep hg6; have BL6 := keep (BL5.out.grown hg6 BL5.out.size (fun j hj => (ROW5.out.lt j hj).1)); clear ho6 hg6)
                have E6 := keep (E5.out.more O5.out (by rw [HM.out]; exact HO6.out) (by rw [HM.out]; exact HG6.out))
                go_roundw
                case rel => exact ⟨k + 1, zs ++ [⟨ykp, ykc, yvp, yvc, ⟨ykey, yseq, ygone, yval⟩⟩], by omega, by go_num, E6.out, by rw [MORE.out, ← hI.out.2.1, List.map_append]; unfold dstep; rw [if_neg (by rw [IN.out]; exact Bool.false_ne_true), if_neg LK.out]; exact congrArg (_ ++ [·]) HYE.out, BL6.out, by rw [List.length_append, List.length_singleton]; have := hI.out.2.2.2; omega⟩
                case measure => simp [intOf]; omega
              | succ j =>
                obtain ⟨bz, offz, rfl, _, _⟩ := RV.out.form entKind_ok (by omega)
                obtain ⟨z, hz⟩ : ∃ z, zs[j]? = some z := ⟨zs[j]'(by rw [HM.out]; omega), List.getElem?_eq_getElem _⟩
                obtain ⟨z0, z1, z2, z3⟩ := ent_cells (RV.out.below entKind_ok BX.out) hz
                have hzh := (RV.out.below entKind_ok BX.out).held z (List.mem_of_getElem? hz)
                have v1 := fun n => conv_src (hzh.1.below (below_drewN (Below.refl _ w4) n))
                have v2 := fun n => conv_src ((HYH.out.1.below BX.out).below (below_drewN (Below.refl _ w4) n))
                have LK : Hid (lastKey (zs.map (·.e)) = some z.e.key) := by show _ = _; unfold lastKey; rw [List.getLast?_map, List.getLast?_eq_getElem?, HM.out, Nat.add_sub_cancel, hz]; rfl
                obtain ⟨zkp, zkc, zvp, zvc, ⟨zkey, zseq, zgone, zval⟩⟩ := z
                simp only at z0 z1 z2 z3 v1 v2 LK
                have m0 : (0 : Int) ≤ (j : Int) := by omega
                have m1 : (j : Int) < (j : Int) + 1 := by omega
                have mw : IntKind.i64.wrap (j : Int) = (j : Int) := wrap_small _ (by omega) (by omega)
                have mz : ((j : Int) + 1 == 0) = false := by simp; omega
                have mz2 : ¬ (j : Int) + 1 = 0 := by omega
                clear hzh hz
                by_cases hq : zkey = xkey
                · have f1 : (zkey == xkey) = true := by simpa using hq
                  have HQ := keep hq
                  clear hq
                  go_wp2_with fail
                  go_quiet (fail)
                  go_wp2
                  go_roundw
                  case rel => exact STAY.out _ (b4.out.trans ((below_drewN (Below.refl _ _) _).mono b4.out.size)) (by rw [← hI.out.2.1]; unfold dstep; rw [if_neg (by rw [IN.out]; exact Bool.false_ne_true), if_pos (by rw [LK.out, HQ.out])])
                  case measure => simp [intOf]; omega
                · have f1 : (zkey == xkey) = false := by simpa using hq
                  have HQ := keep hq
                  clear hq
                  go_wp2_with fail
                  go_quiet (fail)
                  go_wp2_with fail
                  refine (CP.out _ (BX.out.trans ((below_drewN (Below.refl _ _) _).mono BX.out.size))).mono ?_
                  rintro e w5 ⟨y, rfl, hye, hyo, hb5⟩
                  have HYE := keep hye
                  have b5 := keep (hb5.alloc hb5.size (.cells (entKind.vals y).toArray 34))
                  have E5 := keep (hI.out.1.below b5.out)
                  have O5 := keep ((hyo.base HB.out.size).block ((Below.refl w5.heap.size w5).alloc (Nat.le_refl _) (.cells (entKind.vals y).toArray 34)))
                  have BL5 := keep (HB.out.trans (b5.out.mono HB.out.size))
                  have rc := keep (rec_cells (k := entKind) w5 34 y)
                  obtain ⟨ykp, ykc, yvp, yvc, ⟨ykey, yseq, ygone, yval⟩⟩ := y
                  simp only [entKind] at b5 E5 O5 BL5
                  have ROW5 := keep E5.out.row
                  rw [HM.out] at ROW5
                  unfold ev
                  simp only
                  clear hye hyo hb5 CP e0 e1 e2 e3 p0 p1 p2 p3
                  go_wp2_with (at_builtin; go_loud (refine wpList_append_rec entKind_ok rfl _ _ 28 34 rfl w.heap.size i0 _ 64 Try.underlying28 hi0 hz0 hz1 hz2 rfl _ (j + 1) zs rfl ROW5.out _ 1 (⟨ykp, ykc, yvp, yvc, ⟨ykey, yseq, ygone, yval⟩⟩ : EV) rfl rc.out (by unfold maxLen; omega) (by omega) (Nat.le_trans BL5.out.size (Nat.le_refl _)) ?_); intro v6 w6 ho6 hg6; have HO6 := keep ho6; have HG6 := keep hg6; have BL6 := keep (BL5.out.grown hg6 BL5.out.size (fun j hj => (ROW5.out.lt j hj).1)); clear ho6 hg6)
                  have E6 := keep (E5.out.more O5.out (by rw [HM.out]; exact HO6.out) (by rw [HM.out]; exact HG6.out))
                  go_roundw
                  case rel => exact ⟨k + 1, zs ++ [⟨ykp, ykc, yvp, yvc, ⟨ykey, yseq, ygone, yval⟩⟩], by omega, by go_num, E6.out, by rw [MORE.out, ← hI.out.2.1, List.map_append]; unfold dstep; rw [if_neg (by rw [IN.out]; exact Bool.false_ne_true), if_neg (by rw [LK.out]; intro e; exact HQ.out (Option.some.inj e))]; exact congrArg (_ ++ [·]) HYE.out, BL6.out, by rw [List.length_append, List.length_singleton]; have := hI.out.2.2.2; omega⟩
                  case measure => simp [intOf]; omega
        · have hto2 : ¬ 0 < (to.length : Int) := by omega
          by_cases hs : s < xseq
          · obtain ⟨e0, e1, e2, e3⟩ := EC.out W2 (Below.refl _ _)
            go_wp2_with fail
            refine (LF.out W2 (Below.refl _ _)).mono ?_
            rintro e w3 ⟨rfl, hb3⟩
            have b3 := keep hb3
            clear e0 e1 e2 e3
            obtain ⟨e0, e1, e2, e3⟩ := EC.out w3 hb3
            clear hb3 hW2
            go_wp2
            go_roundw
            case rel => exact STAY.out w3 b3.out (by unfold dstep; rw [if_pos (show outB from_ to s ⟨xkey, xseq, xgone, xval⟩ = true from by unfold outB; rw [decide_eq_true hs]; simp)])
            case measure => simp [intOf]; omega
          · have HSQ := keep hs
            obtain ⟨e0, e1, e2, e3⟩ := EC.out W2 (Below.refl _ _)
            go_wp2_with fail
            refine (LF.out W2 (Below.refl _ _)).mono ?_
            rintro e w3 ⟨rfl, hb3⟩
            have b3 := keep hb3
            clear e0 e1 e2 e3
            obtain ⟨e0, e1, e2, e3⟩ := EC.out w3 hb3
            clear hb3 hW2
            have IN : Hid (outB from_ to s ⟨xkey, xseq, xgone, xval⟩ = false) := by show _ = _; unfold outB; rw [HA.out, decide_eq_false (p := s < xseq) (by have := HSQ.out; omega)]; rw [decide_eq_false hto]; rfl
            have BX := keep (b2.out.trans (b3.out.mono b2.out.size))
            have CP : Hid (∀ w1, Below wr.heap.size wr w1 → Calls Try.prog 14 #[.agg #[.slice xkp xkey.length xkc, .int .i64 xseq, .bool xgone, .slice xvp xval.length xvc]] w1 fun e w2 => ∃ y : EV, e = .returned (ev y) ∧ y.e = ⟨xkey, xseq, xgone, xval⟩ ∧ OwnE wr.heap.size w2 y ∧ Below wr.heap.size wr w2) := fun w1 hb => by
              refine (rcopy_any ⟨xkp, xkc, xvp, xvc, ⟨xkey, xseq, xgone, xval⟩⟩ w1 (by simp only; omega) (by simp only; omega) (entKind_ok.below HYH.out hb)).mono ?_
              rintro e w2 ⟨y, rfl, h1, h2, h3⟩
              exact ⟨y, rfl, h1, h2.base hb.size, hb.trans (h3.mono hb.size)⟩
            clear LF LT EC g2
            cases M with
            | zero =>
              have LK : Hid (lastKey (zs.map (·.e)) ≠ some xkey) := by rw [List.length_eq_zero_iff.1 HM.out]; exact lastKey_none rfl _
              go_wp2_with fail
              go_quiet (fail)
              go_wp2_with fail
              refine (CP.out _ (BX.out.trans ((below_drewN (Below.refl _ _) _).mono BX.out.size))).mono ?_
              rintro e w5 ⟨y, rfl, hye, hyo, hb5⟩
              have HYE := keep hye
              have b5 := keep (hb5.alloc hb5.size (.cells (entKind.vals y).toArray 34))
              have E5 := keep (hI.out.1.below b5.out)
              have O5 := keep ((hyo.base HB.out.size).block ((Below.refl w5.heap.size w5).alloc (Nat.le_refl _) (.cells (entKind.vals y).toArray 34)))
              have BL5 := keep (HB.out.trans (b5.out.mono HB.out.size))
              have rc := keep (rec_cells (k := entKind) w5 34 y)
              obtain ⟨ykp, ykc, yvp, yvc, ⟨ykey, yseq, ygone, yval⟩⟩ := y
              simp only [entKind] at b5 E5 O5 BL5
              have ROW5 := keep E5.out.row
              rw [HM.out] at ROW5
              unfold ev
              simp only
              clear hye hyo hb5 CP e0 e1 e2 e3 p0 p1 p2 p3
              go_wp2_with (at_builtin; go_loud (refine wpList_append_rec entKind_ok rfl _ _ 28 34 rfl w.heap.size i0 _ 64 Try.underlying28 hi0 hz0 hz1 hz2 rfl _ (0) zs rfl ROW5.out _ 1 (⟨ykp, ykc, yvp, yvc, ⟨ykey, yseq, ygone, yval⟩⟩ : EV) rfl rc.out (by unfold maxLen; omega) (by omega) (Nat.le_trans BL5.out.size (Nat.le_refl _)) ?_); intro v6 w6 ho6 hg6; have HO6 := keep ho6; have HG6 := keep hg6; have BL6 := keep (BL5.out.grown hg6 BL5.out.size (fun j hj => (ROW5.out.lt j hj).1)); clear ho6 hg6)
              have E6 := keep (E5.out.more O5.out (by rw [HM.out]; exact HO6.out) (by rw [HM.out]; exact HG6.out))
              go_roundw
              case rel => exact ⟨k + 1, zs ++ [⟨ykp, ykc, yvp, yvc, ⟨ykey, yseq, ygone, yval⟩⟩], by omega, by go_num, E6.out, by rw [MORE.out, ← hI.out.2.1, List.map_append]; unfold dstep; rw [if_neg (by rw [IN.out]; exact Bool.false_ne_true), if_neg LK.out]; exact congrArg (_ ++ [·]) HYE.out, BL6.out, by rw [List.length_append, List.length_singleton]; have := hI.out.2.2.2; omega⟩
              case measure => simp [intOf]; omega
            | succ j =>
              obtain ⟨bz, offz, rfl, _, _⟩ := RV.out.form entKind_ok (by omega)
              obtain ⟨z, hz⟩ : ∃ z, zs[j]? = some z := ⟨zs[j]'(by rw [HM.out]; omega), List.getElem?_eq_getElem _⟩
              obtain ⟨z0, z1, z2, z3⟩ := ent_cells (RV.out.below entKind_ok BX.out) hz
              have hzh := (RV.out.below entKind_ok BX.out).held z (List.mem_of_getElem? hz)
              have v1 := fun n => conv_src (hzh.1.below (below_drewN (Below.refl _ w3) n))
              have v2 := fun n => conv_src ((HYH.out.1.below BX.out).below (below_drewN (Below.refl _ w3) n))
              have LK : Hid (lastKey (zs.map (·.e)) = some z.e.key) := by show _ = _; unfold lastKey; rw [List.getLast?_map, List.getLast?_eq_getElem?, HM.out, Nat.add_sub_cancel, hz]; rfl
              obtain ⟨zkp, zkc, zvp, zvc, ⟨zkey, zseq, zgone, zval⟩⟩ := z
              simp only at z0 z1 z2 z3 v1 v2 LK
              have m0 : (0 : Int) ≤ (j : Int) := by omega
              have m1 : (j : Int) < (j : Int) + 1 := by omega
              have mw : IntKind.i64.wrap (j : Int) = (j : Int) := wrap_small _ (by omega) (by omega)
              have mz : ((j : Int) + 1 == 0) = false := by simp; omega
              have mz2 : ¬ (j : Int) + 1 = 0 := by omega
              clear hzh hz
              by_cases hq : zkey = xkey
              · have f1 : (zkey == xkey) = true := by simpa using hq
                have HQ := keep hq
                clear hq
                go_wp2_with fail
                go_quiet (fail)
                go_wp2
                go_roundw
                case rel => exact STAY.out _ (b3.out.trans ((below_drewN (Below.refl _ _) _).mono b3.out.size)) (by rw [← hI.out.2.1]; unfold dstep; rw [if_neg (by rw [IN.out]; exact Bool.false_ne_true), if_pos (by rw [LK.out, HQ.out])])
                case measure => simp [intOf]; omega
              · have f1 : (zkey == xkey) = false := by simpa using hq
                have HQ := keep hq
                clear hq
                go_wp2_with fail
                go_quiet (fail)
                go_wp2_with fail
                refine (CP.out _ (BX.out.trans ((below_drewN (Below.refl _ _) _).mono BX.out.size))).mono ?_
                rintro e w5 ⟨y, rfl, hye, hyo, hb5⟩
                have HYE := keep hye
                have b5 := keep (hb5.alloc hb5.size (.cells (entKind.vals y).toArray 34))
                have E5 := keep (hI.out.1.below b5.out)
                have O5 := keep ((hyo.base HB.out.size).block ((Below.refl w5.heap.size w5).alloc (Nat.le_refl _) (.cells (entKind.vals y).toArray 34)))
                have BL5 := keep (HB.out.trans (b5.out.mono HB.out.size))
                have rc := keep (rec_cells (k := entKind) w5 34 y)
                obtain ⟨ykp, ykc, yvp, yvc, ⟨ykey, yseq, ygone, yval⟩⟩ := y
                simp only [entKind] at b5 E5 O5 BL5
                have ROW5 := keep E5.out.row
                rw [HM.out] at ROW5
                unfold ev
                simp only
                clear hye hyo hb5 CP e0 e1 e2 e3 p0 p1 p2 p3
                go_wp2_with (at_builtin; go_loud (refine wpList_append_rec entKind_ok rfl _ _ 28 34 rfl w.heap.size i0 _ 64 Try.underlying28 hi0 hz0 hz1 hz2 rfl _ (j + 1) zs rfl ROW5.out _ 1 (⟨ykp, ykc, yvp, yvc, ⟨ykey, yseq, ygone, yval⟩⟩ : EV) rfl rc.out (by unfold maxLen; omega) (by omega) (Nat.le_trans BL5.out.size (Nat.le_refl _)) ?_); intro v6 w6 ho6 hg6; have HO6 := keep ho6; have HG6 := keep hg6; have BL6 := keep (BL5.out.grown hg6 BL5.out.size (fun j hj => (ROW5.out.lt j hj).1)); clear ho6 hg6)
                have E6 := keep (E5.out.more O5.out (by rw [HM.out]; exact HO6.out) (by rw [HM.out]; exact HG6.out))
                go_roundw
                case rel => exact ⟨k + 1, zs ++ [⟨ykp, ykc, yvp, yvc, ⟨ykey, yseq, ygone, yval⟩⟩], by omega, by go_num, E6.out, by rw [MORE.out, ← hI.out.2.1, List.map_append]; unfold dstep; rw [if_neg (by rw [IN.out]; exact Bool.false_ne_true), if_neg (by rw [LK.out]; intro e; exact HQ.out (Option.some.inj e))]; exact congrArg (_ ++ [·]) HYE.out, BL6.out, by rw [List.length_append, List.length_singleton]; have := hI.out.2.2.2; omega⟩
                case measure => simp [intOf]; omega
    · obtain rfl : k = N := by omega
      have ll : ¬ (k : Int) < (k : Int) := by omega
      go_wp2
      go_ret
      exact ⟨_, rfl, zs, hI.out.1, by rw [hI.out.2.1, FULL.out], HB.out⟩
end Go.Proofs.Ythhnnfnfggandaa
namespace Go.Proofs.Ythhnnfnfggandaa
open Go.RowKit
open Sk (Ent)

theorem dfold_out {from_ to : List UInt8} {s : Int} : ∀ (l acc : List Ent), (∀ e ∈ l, outB from_ to s e = true) → l.foldl (dstep from_ to s) acc = acc
  | [], acc, _ => rfl
  | e :: l, acc, h => by
    have h1 := h e List.mem_cons_self
    simp only [List.foldl_cons]
    rw [show dstep from_ to s acc e = acc from by unfold dstep; rw [if_pos h1]]
    exact dfold_out l acc (fun x hx => h x (List.mem_cons_of_mem _ hx))
theorem dfold_scan {from_ to : List UInt8} {s : Int} : ∀ (l acc : List Ent), Sk.Up l → (∀ e ∈ l, less e.key from_ = false) → l.foldl (dstep from_ to s) acc = scanL to s acc l
  | [], acc, _, _ => by simp [scanL]
  | e :: l, acc, hu, hf => by
    have hfe := hf e List.mem_cons_self
    have ih := fun acc' => dfold_scan (from_ := from_) (to := to) (s := s) l acc' hu.2 (fun x hx => hf x (List.mem_cons_of_mem _ hx))
    simp only [scanL]
    by_cases hto : to ≠ [] ∧ less e.key to = false
    · rw [if_pos hto]
      have hl : 0 < to.length := List.length_pos_iff.2 hto.1
      refine dfold_out _ _ (fun x hx => ?_)
      have hx2 : less x.key to = false := by
        rcases List.mem_cons.1 hx with rfl | hx
        · exact hto.2
        · cases hq : less x.key to with
          | false => rfl
          | true =>
            have := Sk.from_down to e x (hu.1 x hx) hq
            rw [hto.2] at this
            cases this
      unfold outB
      rw [hx2, decide_eq_true hl]
      simp
    · rw [if_neg hto]
      have ho : outB from_ to s e = decide (s < e.seq) := by
        unfold outB
        rw [hfe]
        by_cases h0 : to = []
        · subst h0; simp
        · have h1 : less e.key to = true := by
            cases hq : less e.key to with
            | true => rfl
            | false => exact absurd ⟨h0, hq⟩ hto
          rw [h1]; simp
      simp only [List.foldl_cons]
      by_cases hs : s < e.seq
      · rw [show dstep from_ to s acc e = acc from by unfold dstep; rw [ho, if_pos (decide_eq_true hs)], if_neg (fun h => by omega)]
        exact ih acc
      · have hd : dstep from_ to s acc e = if lastKey acc = some e.key then acc else acc ++ [e] := by
          unfold dstep
          rw [ho, decide_eq_false hs]
          rfl
        rw [hd]
        by_cases hk : lastKey acc = some e.key
        · rw [if_pos hk, if_neg (fun h => h.2 hk)]
          exact ih acc
        · rw [if_neg hk, if_pos ⟨by omega, hk⟩]
          exact ih _
theorem up_drop : ∀ {l : List Ent} (k : Nat), Sk.Up l → Sk.Up (l.drop k)
  | _, 0, h => h
  | [], _ + 1, _ => trivial
  | _ :: l, k + 1, h => up_drop (l := l) k h.2
theorem scan_same {l : List Ent} (h : Sk.Up l) (from_ to : List UInt8) (s : Int) : dscan l from_ to s = scan l from_ to s := by
  obtain ⟨hk, hc⟩ := Sk.cut_count (P := fun e => less e.key from_) (fun a b hg hb => Sk.from_down from_ a b hg hb) h
  unfold dscan scan
  obtain ⟨k, hkk⟩ : ∃ k, Sk.count (fun e => less e.key from_) l = k := ⟨_, rfl⟩
  rw [hkk] at hc ⊢
  conv => lhs; rw [← List.take_append_drop k l]
  rw [List.foldl_append, dfold_out (l.take k) [] (fun e he => ?_)]
  · refine dfold_scan _ _ (up_drop k h) (fun e he => ?_)
    obtain ⟨i, hi⟩ := List.getElem?_of_mem he
    rw [List.getElem?_drop] at hi
    cases hq : less e.key from_ with
    | false => rfl
    | true => have := (hc (k + i) e hi).1 hq; omega
  · obtain ⟨i, hi⟩ := List.getElem?_of_mem he
    have hik : i < k := by
      have := (List.getElem?_eq_some_iff.1 hi).1
      rw [List.length_take] at this
      omega
    rw [List.getElem?_take, if_pos hik] at hi
    have : less e.key from_ = true := (hc i e hi).2 hik
    unfold outB
    rw [this]
    simp
theorem lev_same {ns : List Nd} (ht : Tall ns) {z : Int} {i : Nat} (hi : (i : Int) = max z 1 - 1) : above ns i = lev (ns.map fun n => (n.x.e, (n.h : Int))) z := by
  unfold above lev
  induction ns with
  | nil => rfl
  | cons n ns ih =>
    have hn := ht n List.mem_cons_self
    have ih := ih (fun m hm => ht m (List.mem_cons_of_mem _ hm))
    have e1 : decide (i < n.h) = decide (z ≤ (n.h : Int)) := by
      rw [decide_eq_decide]
      omega
    simp only [List.map_cons, List.filter_cons, e1]
    split
    · simp only [List.map_cons, ih]
    · exact ih
theorem lev_none {l : List (Ent × Int)} {z : Int} (h : ∀ p ∈ l, p.2 < z) : lev l z = [] := by
  unfold lev
  rw [List.filter_eq_nil_iff.2 (fun p hp => by have := h p hp; simp; omega)]
  rfl
set_option maxHeartbeats 1000000 in
set_option maxRecDepth 100000 in
theorem level_high (b : Nat) (z : Int) (w : World) (hz : 12 < z) : Calls Try.prog 22 #[.pointer (some ⟨b, 0, none⟩), .int .i64 z] w fun e w' => e = .returned (.slice none 0 0) ∧ w' = w := by
  go_enter Try.func22, Try.ntmps22
  go_wp2
  go_ret
  exact ⟨rfl, rfl⟩
set_option maxHeartbeats 1000000 in
set_option maxRecDepth 100000 in
theorem rscanM_any (B r : Nat) (ys : List EV) (hs : List Int) (fp : Option Addr) (fc : Nat) (from_ : List UInt8) (tp : Option Addr) (tc : Nat) (to : List UInt8) (s : Int) (w : World) (hM : RMem B w r ys hs) (hln : ys.length ≤ 1000000) (hf : Src w fp from_.length fc from_) (ht : Src w tp to.length tc to) (hfl : from_.length ≤ 140737488355328) (htl : to.length ≤ 140737488355328) :
    Calls Try.prog 21 #[.pointer (some ⟨r, 0, none⟩), .slice fp from_.length fc, .slice tp to.length tc, .int .i64 s] w fun e w' => ∃ v zs, e = .returned v ∧ Ents w.heap.size w' v zs ∧ zs.map (·.e) = dscan (ys.map (·.e)) from_ to s ∧ Below w.heap.size w w' := by
  obtain ⟨ao, c, vH, hrow, hsrc, _, _⟩ := hM.src
  have c0 : w.cell? ⟨r, 0, none⟩ = some (.slice ao ys.length c) := cell_of_row _ _ _ _ _ _ hrow
  have SC := keep (rscan_any ao ys.length c ys fp fc from_ tp tc to s w hsrc hM.small (by omega) hf ht hfl htl)
  clear hM hrow hsrc hf ht
  go_enter Try.func21, Try.ntmps21
  go_wp2_with fail
  refine SC.out.mono ?_
  rintro e w2 ⟨v, zs, rfl, h1, h2, h3⟩
  have H1 := keep h1
  have H2 := keep h2
  have H3 := keep h3
  clear h1 h2 h3
  go_wp2
  go_ret
  exact ⟨v, zs, rfl, H1.out, H2.out, H3.out⟩
end Go.Proofs.Ythhnnfnfggandaa
namespace Go.Proofs.Ythhnnfnfggandaa
open Go.RowKit
open Sk (Ent)

set_option maxHeartbeats 2000000 in
set_option maxRecDepth 100000 in
theorem rget_any (B r : Nat) (ys : List EV) (hs : List Int) (kp : Option Addr) (kc : Nat) (key : List UInt8) (s : Int) (w : World) (hM : RMem B w r ys hs) (hln : ys.length ≤ 1000000) (hk : Src w kp key.length kc key) :
    Calls Try.prog 20 #[.pointer (some ⟨r, 0, none⟩), .slice kp key.length kc, .int .i64 s] w fun e w' => ∃ y : EV, e = .returned (.tuple #[ev y, .bool (verE (ys.map (·.e)) key s).isSome]) ∧ y.e = (verE (ys.map (·.e)) key s).getD zeroE ∧ OwnE w.heap.size w' y ∧ Below w.heap.size w w' := by
  obtain ⟨ao, c, vH, hrow, hsrc, _, _⟩ := hM.src
  have L0 : Hid (w.cell? ⟨r, 0, none⟩ = some (.slice ao ys.length c)) := cell_of_row _ _ _ _ _ _ hrow
  obtain ⟨W1, hW1⟩ : ∃ W1, w.alloc (.cells #[.slice none 0 0, .int .i64 0, .bool false, .slice none 0 0] 34) = W1 := ⟨_, rfl⟩
  have b1 : Hid (Below w.heap.size w W1) := by rw [← hW1]; exact (Below.refl _ _).alloc (Nat.le_refl _) _
  have g1 : Hid (W1.heap[w.heap.size]? = some (.cells #[.slice none 0 0, .int .i64 0, .bool false, .slice none 0 0] 34)) := by rw [← hW1]; exact heap_alloc_new w _
  have gl : Hid (w.heap.size < W1.heap.size) := by rw [← hW1]; show _ < _; simp
  have l1 := below_cell b1.out L0.out
  have VR := keep (rversion_any ao ys.length c ys kp kc key s W1 (hsrc.below entKind_ok b1.out) hM.small hln (hk.below b1.out))
  obtain ⟨X, hX⟩ : ∃ X, verE (ys.map (·.e)) key s = X := ⟨_, rfl⟩
  rw [hX] at VR ⊢
  clear hM hrow hsrc hk hX
  go_enter Try.func20, Try.ntmps20
  go_wp2_with fail
  refine VR.out.mono ?_
  rintro e w5 ⟨y, rfl, hye, hyo, hb5⟩
  have HYE := keep hye
  have BL5 := keep (b1.out.trans (hb5.mono b1.out.size))
  have G5 : Hid (w5.heap[w.heap.size]? = some (.cells #[.slice none 0 0, .int .i64 0, .bool false, .slice none 0 0] 34)) := (hb5.block _ gl.out).trans g1.out
  obtain ⟨ykp, ykc, yvp, yvc, ⟨ykey, yseq, ygone, yval⟩⟩ := y
  have O5 := keep (hyo.base b1.out.size)
  have t0 : w5.cell? ⟨w.heap.size, 0, none⟩ = some (.slice none 0 0) := cell_of_row _ _ _ _ _ _ G5.out
  have t1 : w5.cell? ⟨w.heap.size, 1, none⟩ = some (.int .i64 0) := cell_of_row _ _ _ _ _ _ G5.out
  have t2 : w5.cell? ⟨w.heap.size, 2, none⟩ = some (.bool false) := cell_of_row _ _ _ _ _ _ G5.out
  have t3 : w5.cell? ⟨w.heap.size, 3, none⟩ = some (.slice none 0 0) := cell_of_row _ _ _ _ _ _ G5.out
  have f0 : w5.frozen? ⟨w.heap.size, 0, none⟩ = false := by simp [World.frozen?, G5.out]
  have f1 : w5.frozen? ⟨w.heap.size, 1, none⟩ = false := by simp [World.frozen?, G5.out]
  have f2 : w5.frozen? ⟨w.heap.size, 2, none⟩ = false := by simp [World.frozen?, G5.out]
  have f3 : w5.frozen? ⟨w.heap.size, 3, none⟩ = false := by simp [World.frozen?, G5.out]
  unfold ev
  simp only
  clear hye hyo hb5 VR hW1 l1
  go_wp2
  have far : ∀ {v : Value} {n : Nat} {xs : List Value}, w5.ownsRow w.heap.size 5 1 v n xs → ∀ g, v.ownBlock = some g → g ≠ w.heap.size := fun {v n xs} h g hg e => by
    obtain ⟨cur, hc⟩ := own_tag h hg
    rw [e, G5.out] at hc
    cases hc
  refine ⟨rfl, .tuple #[.agg #[.slice ykp ykey.length ykc, .int .i64 yseq, .bool ygone, .slice yvp yval.length yvc], .bool X.isSome], ?_, ⟨ykp, ykc, yvp, yvc, ⟨ykey, yseq, ygone, yval⟩⟩, rfl, HYE.out, ⟨?_, ?_⟩, ?_⟩
  · have s0 : (w5.setCell ⟨w.heap.size, 0, none⟩ (.slice ykp ykey.length ykc)).cell? ⟨w.heap.size, 0, none⟩ = some (.slice ykp ykey.length ykc) := World.cell?_setCell_same' _ _ _ (by simp [go_sem, t0])
    have s1 : ((w5.setCell ⟨w.heap.size, 0, none⟩ (.slice ykp ykey.length ykc)).setCell ⟨w.heap.size, 1, none⟩ (.int .i64 yseq)).cell? ⟨w.heap.size, 1, none⟩ = some (.int .i64 yseq) := World.cell?_setCell_same' _ _ _ (by simp [go_sem, t1])
    have s2 : (((w5.setCell ⟨w.heap.size, 0, none⟩ (.slice ykp ykey.length ykc)).setCell ⟨w.heap.size, 1, none⟩ (.int .i64 yseq)).setCell ⟨w.heap.size, 2, none⟩ (.bool ygone)).cell? ⟨w.heap.size, 2, none⟩ = some (.bool ygone) := World.cell?_setCell_same' _ _ _ (by simp [go_sem, t2])
    have s3 : ((((w5.setCell ⟨w.heap.size, 0, none⟩ (.slice ykp ykey.length ykc)).setCell ⟨w.heap.size, 1, none⟩ (.int .i64 yseq)).setCell ⟨w.heap.size, 2, none⟩ (.bool ygone)).setCell ⟨w.heap.size, 3, none⟩ (.slice yvp yval.length yvc)).cell? ⟨w.heap.size, 3, none⟩ = some (.slice yvp yval.length yvc) := World.cell?_setCell_same' _ _ _ (by simp [go_sem, t3])
    simp [results, Try.f20, go_sem, loadCells, loadCellsFrom, s0, s1, s2, s3]
  · refine own_block O5.out.1 (fun g hg => ?_)
    have h1 := far O5.out.1 g hg
    simp only [set_far _ _ h1]
  · refine own_block O5.out.2 (fun g hg => ?_)
    have h1 := far O5.out.2 g hg
    simp only [set_far _ _ h1]
  · exact ((((BL5.out.setCell (p := ⟨w.heap.size, 0, none⟩) (Nat.le_refl _) _).setCell (p := ⟨w.heap.size, 1, none⟩) (Nat.le_refl _) _).setCell (p := ⟨w.heap.size, 2, none⟩) (Nat.le_refl _) _).setCell (p := ⟨w.heap.size, 3, none⟩) (Nat.le_refl _) _)
end Go.Proofs.Ythhnnfnfggandaa
