/- The walk of block's takeEntries. -/
/- The walk of block's Parse. -/
/- Blocks that are cut off, go on, or are turned, over plain lists; no walk. -/
import Derived.Test.YtjblicgbdecbcaaGreatZJ9
namespace Go.Proofs.YtjblicgbdecbcaaGreat.Bq
open Go.Proofs.YtjblicgbdecbcaaGreat
open Go.Proofs.YtjblicgbdecbcaaGreat.Sk (Ent)

/-- The key ahead, and what is left, behind k entries. -/
def ahK : Nat → List UInt8 → List UInt8 → List UInt8
  | 0, a, _ => a
  | k + 1, a, r => ahK k (rdE a r).key (rdR r)
def reK : Nat → List UInt8 → List UInt8
  | 0, r => r
  | k + 1, r => reK k (rdR r)
theorem ahK_succ : ∀ (k : Nat) (a r : List UInt8), ahK (k + 1) a r = (rdE (ahK k a r) (reK k r)).key
  | 0, a, r => rfl
  | k + 1, a, r => by
    have := ahK_succ k (rdE a r).key (rdR r)
    simp only [ahK, reK] at this ⊢
    exact this
theorem reK_succ : ∀ (k : Nat) (r : List UInt8), reK (k + 1) r = rdR (reK k r)
  | 0, r => rfl
  | k + 1, r => by
    have := reK_succ k (rdR r)
    simp only [reK] at this ⊢
    exact this
theorem rdL_snoc : ∀ (k : Nat) (a r : List UInt8), rdL (k + 1) a r = rdL k a r ++ [rdE (ahK k a r) (reK k r)]
  | 0, a, r => rfl
  | k + 1, a, r => by
    have := rdL_snoc k (rdE a r).key (rdR r)
    rw [rdL, this]
    simp only [rdL, ahK, reK, List.cons_append]
theorem rdR_len (r : List UInt8) : (rdR r).length ≤ r.length := by
  unfold rdR
  have h1 := rOf_len r
  have h2 := tR_len (rOf r) 64
  have h3 := rOf_len (tR (rOf r) 64)
  have h4 := tR_len (rOf (tR (rOf r) 64)) 1024
  omega
theorem rdE_key (a r : List UInt8) : (rdE a r).key.length ≤ a.length + 64 := by
  have h : (tS (rOf r) 64).length ≤ 64 := tS_len (rOf r) 64
  unfold rdE
  simp only [List.length_append, List.length_take]
  omega
theorem rdE_val (a r : List UInt8) : (rdE a r).val.length ≤ 1024 := tS_len _ 1024
end Go.Proofs.YtjblicgbdecbcaaGreat.Bq
namespace Go.Proofs.YtjblicgbdecbcaaGreat
open Go.RowKit
open Sk (Ent)

/-- A row of entries of the call's own; their bytes in blocks of bytes. -/
structure RowT (B : Nat) (w : World) (v : Value) (ys : List EV) : Prop where
  row : w.ownsRow B 37 4 v ys.length (rv entKind ys)
  each : ∀ y ∈ ys, HeldT w y
theorem RowT.nil (B : Nat) (w : World) : RowT B w (.slice none 0 0) [] := ⟨World.ownsRow_nil _ _ _ _, fun y h => by cases h⟩
theorem RowT.below {B : Nat} {w w' : World} {v : Value} {ys : List EV} (h : RowT B w v ys) (hb : Below w.heap.size w w') : RowT B w' v ys := ⟨own_block h.row (fun g hg => hb.block g (own_size h.row hg)), fun y hy => (h.each y hy).turn (T5.of_below hb)⟩
theorem RowT.more {B : Nat} {w w' : World} {v v' : Value} {ys : List EV} {y : EV} (h : RowT B w v ys) (hy : HeldT w y) (ho : w'.ownsRow B 37 4 v' (ys.length + 1) (rv entKind (ys ++ [y]))) (hg : w.grownBy w' v.ownBlock) : RowT B w' v' (ys ++ [y]) :=
  ⟨by rw [List.length_append]; exact ho, fun z hz => by
    rcases List.mem_append.1 hz with hz | hz
    · exact (h.each z hz).turn (T5.of_grown h.row (by decide) hg)
    · rw [List.mem_singleton.1 hz]; exact hy.turn (T5.of_grown h.row (by decide) hg)⟩
theorem RowT.kept {B : Nat} {w w' : World} {v : Value} {ys : List EV} {r : Nat} {rest : List UInt8} (h : RowT B w v ys) (hr : Rd r w rest) (hB : r < B) (hk : Kept (· = r) w w') : RowT B w' v ys :=
  ⟨own_block h.row (fun g hg => hk.block g (own_size h.row hg) (fun e => by have := (h.row.lt g hg).1; omega)), fun y hy => (h.each y hy).turn (hr.turn hk)⟩
theorem RowT.src {B : Nat} {w : World} {v : Value} {ys : List EV} (h : RowT B w v ys) : ∃ ao c, v = .slice ao ys.length c ∧ RSrc entKind w ao ys.length c ys := by
  obtain ⟨ao, c, h1, h2, _⟩ := RSrc.own entKind_ok h.row (fun e he => (h.each e he).1)
  exact ⟨ao, c, h1, h2⟩
theorem grown_rd5 {B : Nat} {w w' : World} {v : Value} {n : Nat} {xs : List Value} {r : Nat} (hr : r < w.heap.size) (hB : r < B) (hv : w.ownsRow B 37 4 v n xs) (h5 : Rd5 r w) (hg : w.grownBy w' v.ownBlock) : Rd5 r w' := fun ra m rc t fr hh => by
  rw [hg.block r hr (fun e => by have := (hv.lt r e.symm).1; omega)] at hh
  exact (h5 ra m rc t fr hh).turn (T5.of_grown hv (by decide) hg)
theorem grown_rd {B : Nat} {w w' : World} {v : Value} {n : Nat} {xs : List Value} {r : Nat} {rest : List UInt8} (hr : Rd r w rest) (hB : r < B) (hv : w.ownsRow B 37 4 v n xs) (h5 : Rd5 r w) (hg : w.grownBy w' v.ownBlock) : Rd r w' rest := by
  obtain ⟨ra, rc, h1, h2⟩ := hr
  exact ⟨ra, rc, (hg.block r (Array.getElem?_eq_some_iff.1 h1).1 (fun e => by have := (hv.lt r e.symm).1; omega)).trans h1, src_turn h2 (h5 _ _ _ _ _ h1) (T5.of_grown hv (by decide) hg)⟩
/-- How far takeEntries has come. -/
structure TakeI (w : World) (r : Nat) (R : List UInt8) (k : Nat) (ys : List EV) (v : Value) (ap : Option Addr) (A ac : Nat) (wr : World) : Prop where
  row : RowT w.heap.size wr v ys
  ents : ys.map (·.e) = Bq.rdL k [] R
  rd : Rd r wr (Bq.reK k R)
  rd5 : Rd5 r wr
  key : Src wr ap A ac (Bq.ahK k [] R)
  key5 : In5 wr ap
  small : A ≤ 64 * k
  kept : Kept (· = r) w wr
  len : ys.length = k
  short : (Bq.reK k R).length ≤ R.length
theorem TakeI.next {w : World} {r : Nat} {R : List UInt8} {k : Nat} {ys : List EV} {v : Value} {ap : Option Addr} {A ac : Nat} {wr w2 W4 w5 : World} (hrw : r < w.heap.size) (h : TakeI w r R k ys v ap A ac wr) {y : EV} (hy : y.e = Bq.rdE (Bq.ahK k [] R) (Bq.reK k R)) (hh : HeldT w2 y) (hd : Rd r w2 (Bq.rdR (Bq.reK k R))) (h5 : Rd5 r w2) (hk : Kept (· = r) wr w2) (hb : Below w2.heap.size w2 W4) {v' : Value}
    (ho : w5.ownsRow w.heap.size 37 4 v' (ys.length + 1) (rv entKind (ys ++ [y]))) (hg : W4.grownBy w5 v.ownBlock) : TakeI w r R (k + 1) (ys ++ [y]) v' y.kp y.e.key.length y.kc w5 := by
  have row4 := (h.row.kept h.rd hrw hk).below hb
  have rd4 := hd.below hb
  have hh4 := hh.turn (T5.of_below hb)
  have rd54 := h5.turn (Kept.of_below (U := fun _ => False) hb) (fun h => h) (T5.of_below hb) hd.lt
  have rowN := row4.more hh4 ho hg
  have hyN := rowN.each y (by simp)
  refine ⟨rowN, ?_, ?_, grown_rd5 rd4.lt hrw row4.row rd54 hg, ?_, hyN.2.1, ?_, ?_, ?_, ?_⟩
  · rw [List.map_append, h.ents, Bq.rdL_snoc, ← hy]
    rfl
  · rw [Bq.reK_succ]
    exact grown_rd rd4 hrw row4.row rd54 hg
  · rw [Bq.ahK_succ, ← hy]
    exact hyN.1.1
  · have := Bq.rdE_key (Bq.ahK k [] R) (Bq.reK k R)
    have h1 := h.small
    have h2 := h.key.len
    rw [← hy] at this
    omega
  · refine ((h.kept.trans hk).trans (Kept.of_below hb)).grown hg (fun g hgg => .inr ?_)
    exact (row4.row.lt g hgg).1
  · rw [List.length_append, h.len]
    rfl
  · have := Bq.rdR_len (Bq.reK k R)
    have := h.short
    rw [Bq.reK_succ]
    omega
set_option maxHeartbeats 2000000 in
set_option maxRecDepth 100000 in
theorem takeEntries_any (r : Nat) (b : List UInt8) (w : World) (h : Rd r w b) (hm : b.length ≤ 140737488355328) :
    Calls Tryz.prog 88 #[(.func (.func 89) #[.pointer (some ⟨r, 0, none⟩)] #[]), (.func (.func 90) #[.pointer (some ⟨r, 0, none⟩)] #[])] w fun e w' => ∃ (ys : List EV) (v : Value), e = .returned v ∧ RowT w.heap.size w' v ys ∧ ys.map (·.e) = Bq.rd b ∧ ys.length ≤ 8 ∧ Kept (· = r) w w' := by
  obtain ⟨i0, hi0, hz0, hz1, hz2⟩ := info_parts3 infoE
  have hrw := h.lt
  have RN := keep (num_read r b w h hm)
  have hl := Bq.rOf_len b
  have HRD : Hid (Bq.rd b = Bq.rdL (min (nOf b) 8) [] (rOf b)) := rfl
  obtain ⟨R, hR⟩ : ∃ R, rOf b = R := ⟨_, rfl⟩
  obtain ⟨N, hN⟩ : ∃ N, nOf b = N := ⟨_, rfl⟩
  rw [hR] at RN HRD hl
  rw [hN] at RN HRD
  have HRW := keep hrw
  have hRm : R.length ≤ 140737488355328 := by omega
  clear hR hN h hl hm
  unfold Read at RN
  go_enter Tryz.func88, Tryz.ntmps88
  go_wp2_with fail
  refine RN.out.mono ?_
  rintro e w1 ⟨rfl, hd1, h51, hk1⟩
  have I0 : Hid (TakeI w r R 0 [] (.slice none 0 0) none 0 0 w1) := ⟨RowT.nil _ _, rfl, hd1, h51, src_nil w1, in5_none w1, by omega, hk1, rfl, Nat.le_refl _⟩
  clear hd1 h51 hk1 RN
  by_cases h8 : 8 < N
  · have HC : Hid (min N 8 = 8) := by show _ = _; omega
    have h8i : (8 : Int) < (N : Int) := by omega
    rw [HC.out] at HRD
    have hC8 : 8 ≤ 8 := by omega
    go_wp2
    go_loopw [5, 6, 11] (fun vo va i wr => ∃ (k : Nat) (ys : List EV) (v : Value) (ap : Option Addr) (A ac : Nat), k ≤ 8 ∧ vo = v ∧ va = .slice ap A ac ∧ i = .int .i64 (k : Int) ∧ Hid (TakeI w r R k ys v ap A ac wr)) (fun _ _ i _ => 8 - (intOf i).toNat)
    case atStart => exact ⟨0, [], _, _, _, _, Nat.zero_le _, rfl, rfl, rfl, I0.out⟩
    case round =>
      obtain ⟨k, ys, vo, ap, A, ac, hk, hvo, rfl, rfl, hI⟩ := hrel
      have hvo' := hvo.symm
      subst hvo'
      clear hvo
      clear I0
      by_cases hkC : k < 8
      · have ll : (k : Int) < (8 : Int) := by omega
        have hsm := hI.out.small
        have hsh := hI.out.short
        have hyl := hI.out.len
        have TE := keep (takeEntry_any ap A ac (Bq.ahK k [] R) r (Bq.reK k R) wr hI.out.rd (by omega) (by omega) hI.out.key)
        clear hsm hsh
        have HYL := keep hyl
        clear hyl
        go_wp2_with fail
        refine TE.out.mono ?_
        rintro e w2 ⟨y, rfl, hye, hyh, hd2, h52, hk2⟩
        have D2 := keep hd2
        have V2 := keep h52
        have K2 := keep hk2
        have H2 := keep hyh
        have HYE := keep hye
        obtain ⟨W3, hW3⟩ : ∃ W3, w2.alloc (.cells (entKind.vals y).toArray 37) = W3 := ⟨_, rfl⟩
        have b3 : Hid (Below w2.heap.size w2 W3) := by rw [← hW3]; exact (Below.refl _ _).alloc (Nat.le_refl _) _
        have g3 : Hid (W3.heap[w2.heap.size]? = some (.cells (entKind.vals y).toArray 37)) := by rw [← hW3]; exact heap_alloc_new w2 _
        have b4 := keep (b3.out.alloc b3.out.size (.cells (entKind.vals y).toArray 37))
        have s4 : Hid (w2.heap.size < (W3.alloc (.cells (entKind.vals y).toArray 37)).heap.size) := by show _ < _; rw [alloc_size]; have := (Array.getElem?_eq_some_iff.1 g3.out).1; omega
        have R4 := keep ((hI.out.row.kept hI.out.rd HRW.out hk2).below b4.out)
        have rc := keep (rec_cells (k := entKind) W3 37 y)
        have NX := keep (fun v' w5 ho hg => TakeI.next (w5 := w5) (v' := v') HRW.out hI.out hye hyh hd2 h52 hk2 b4.out ho hg)
        have OB : Hid (∀ g, vo.ownBlock = some g → g < w2.heap.size) := fun g hg => Nat.lt_of_lt_of_le (own_size hI.out.row.row hg) hk2.size
        have G4 : Hid ((W3.alloc (.cells (entKind.vals y).toArray 37)).heap[w2.heap.size]? = some (.cells (entKind.vals y).toArray 37)) := ((Below.refl W3.heap.size W3).alloc (Nat.le_refl _) _).block _ (Array.getElem?_eq_some_iff.1 g3.out).1 |>.trans g3.out
        have hkw : w.heap.size ≤ (W3.alloc (.cells (entKind.vals y).toArray 37)).heap.size := Nat.le_trans (Nat.le_trans hI.out.kept.size hk2.size) b4.out.size
        have HKW := keep hkw
        obtain ⟨ykp, ykc, yvp, yvc, ⟨ykey, yseq, ygone, yval⟩⟩ := y
        have q0 : W3.cell? ⟨w2.heap.size, 0, none⟩ = some (.slice ykp ykey.length ykc) := cell_of_row _ _ _ _ _ _ g3.out
        have q1 : W3.cell? ⟨w2.heap.size, 1, none⟩ = some (.int .i64 yseq) := cell_of_row _ _ _ _ _ _ g3.out
        have q2 : W3.cell? ⟨w2.heap.size, 2, none⟩ = some (.bool ygone) := cell_of_row _ _ _ _ _ _ g3.out
        have q3 : W3.cell? ⟨w2.heap.size, 3, none⟩ = some (.slice yvp yval.length yvc) := cell_of_row _ _ _ _ _ _ g3.out
        simp only [entKind] at hW3 g3 b4 s4 R4 NX G4 HKW
        unfold ev
        simp only
        clear hye hyh hd2 h52 hk2 TE hkw
        go_wp2_with (at_builtin; go_loud (refine wpList_append_rec entKind_ok rfl _ _ 22 37 rfl w.heap.size i0 _ 64 Tryz.underlying22 hi0 hz0 hz1 hz2 rfl _ ys.length ys rfl R4.out.row _ 1 (⟨ykp, ykc, yvp, yvc, ⟨ykey, yseq, ygone, yval⟩⟩ : EV) rfl rc.out (by have := HYL.out; unfold maxLen; omega) (by have := HYL.out; omega) HKW.out ?_); intro v5 w5 ho5 hg5; have N5 := keep (NX.out v5 w5 ho5 hg5); have u0 : w5.cell? ⟨w2.heap.size, 0, none⟩ = some (.slice ykp ykey.length ykc) := (by exact cell_of_row _ _ _ _ _ _ ((hg5.block _ s4.out (fun e => Nat.lt_irrefl _ (OB.out _ e.symm))).trans G4.out)); clear ho5 hg5)
        go_roundw
        case rel => exact ⟨k + 1, _, _, _, _, _, by omega, rfl, rfl, by first | rfl | go_num, N5.out⟩
        case measure => simp [intOf]; omega
      · obtain rfl : k = 8 := by omega
        have ll : ¬ (8 : Int) < (8 : Int) := by omega
        go_wp2
        go_ret
        exact ⟨ys, _, rfl, hI.out.row, by rw [hI.out.ents, HRD.out], by rw [hI.out.len]; exact hC8, hI.out.kept⟩
  · have HC : Hid (min N 8 = N) := by show _ = _; omega
    have h8i : ¬ (8 : Int) < (N : Int) := by omega
    rw [HC.out] at HRD
    have hC8 : N ≤ 8 := by omega
    go_wp2
    go_loopw [5, 6, 11] (fun vo va i wr => ∃ (k : Nat) (ys : List EV) (v : Value) (ap : Option Addr) (A ac : Nat), k ≤ N ∧ vo = v ∧ va = .slice ap A ac ∧ i = .int .i64 (k : Int) ∧ Hid (TakeI w r R k ys v ap A ac wr)) (fun _ _ i _ => N - (intOf i).toNat)
    case atStart => exact ⟨0, [], _, _, _, _, Nat.zero_le _, rfl, rfl, rfl, I0.out⟩
    case round =>
      obtain ⟨k, ys, vo, ap, A, ac, hk, hvo, rfl, rfl, hI⟩ := hrel
      have hvo' := hvo.symm
      subst hvo'
      clear hvo
      clear I0
      by_cases hkC : k < N
      · have ll : (k : Int) < (N : Int) := by omega
        have hsm := hI.out.small
        have hsh := hI.out.short
        have hyl := hI.out.len
        have TE := keep (takeEntry_any ap A ac (Bq.ahK k [] R) r (Bq.reK k R) wr hI.out.rd (by omega) (by omega) hI.out.key)
        clear hsm hsh
        have HYL := keep hyl
        clear hyl
        go_wp2_with fail
        refine TE.out.mono ?_
        rintro e w2 ⟨y, rfl, hye, hyh, hd2, h52, hk2⟩
        have D2 := keep hd2
        have V2 := keep h52
        have K2 := keep hk2
        have H2 := keep hyh
        have HYE := keep hye
        obtain ⟨W3, hW3⟩ : ∃ W3, w2.alloc (.cells (entKind.vals y).toArray 37) = W3 := ⟨_, rfl⟩
        have b3 : Hid (Below w2.heap.size w2 W3) := by rw [← hW3]; exact (Below.refl _ _).alloc (Nat.le_refl _) _
        have g3 : Hid (W3.heap[w2.heap.size]? = some (.cells (entKind.vals y).toArray 37)) := by rw [← hW3]; exact heap_alloc_new w2 _
        have b4 := keep (b3.out.alloc b3.out.size (.cells (entKind.vals y).toArray 37))
        have s4 : Hid (w2.heap.size < (W3.alloc (.cells (entKind.vals y).toArray 37)).heap.size) := by show _ < _; rw [alloc_size]; have := (Array.getElem?_eq_some_iff.1 g3.out).1; omega
        have R4 := keep ((hI.out.row.kept hI.out.rd HRW.out hk2).below b4.out)
        have rc := keep (rec_cells (k := entKind) W3 37 y)
        have NX := keep (fun v' w5 ho hg => TakeI.next (w5 := w5) (v' := v') HRW.out hI.out hye hyh hd2 h52 hk2 b4.out ho hg)
        have OB : Hid (∀ g, vo.ownBlock = some g → g < w2.heap.size) := fun g hg => Nat.lt_of_lt_of_le (own_size hI.out.row.row hg) hk2.size
        have G4 : Hid ((W3.alloc (.cells (entKind.vals y).toArray 37)).heap[w2.heap.size]? = some (.cells (entKind.vals y).toArray 37)) := ((Below.refl W3.heap.size W3).alloc (Nat.le_refl _) _).block _ (Array.getElem?_eq_some_iff.1 g3.out).1 |>.trans g3.out
        have hkw : w.heap.size ≤ (W3.alloc (.cells (entKind.vals y).toArray 37)).heap.size := Nat.le_trans (Nat.le_trans hI.out.kept.size hk2.size) b4.out.size
        have HKW := keep hkw
        obtain ⟨ykp, ykc, yvp, yvc, ⟨ykey, yseq, ygone, yval⟩⟩ := y
        have q0 : W3.cell? ⟨w2.heap.size, 0, none⟩ = some (.slice ykp ykey.length ykc) := cell_of_row _ _ _ _ _ _ g3.out
        have q1 : W3.cell? ⟨w2.heap.size, 1, none⟩ = some (.int .i64 yseq) := cell_of_row _ _ _ _ _ _ g3.out
        have q2 : W3.cell? ⟨w2.heap.size, 2, none⟩ = some (.bool ygone) := cell_of_row _ _ _ _ _ _ g3.out
        have q3 : W3.cell? ⟨w2.heap.size, 3, none⟩ = some (.slice yvp yval.length yvc) := cell_of_row _ _ _ _ _ _ g3.out
        simp only [entKind] at hW3 g3 b4 s4 R4 NX G4 HKW
        unfold ev
        simp only
        clear hye hyh hd2 h52 hk2 TE hkw
        go_wp2_with (at_builtin; go_loud (refine wpList_append_rec entKind_ok rfl _ _ 22 37 rfl w.heap.size i0 _ 64 Tryz.underlying22 hi0 hz0 hz1 hz2 rfl _ ys.length ys rfl R4.out.row _ 1 (⟨ykp, ykc, yvp, yvc, ⟨ykey, yseq, ygone, yval⟩⟩ : EV) rfl rc.out (by have := HYL.out; unfold maxLen; omega) (by have := HYL.out; omega) HKW.out ?_); intro v5 w5 ho5 hg5; have N5 := keep (NX.out v5 w5 ho5 hg5); have u0 : w5.cell? ⟨w2.heap.size, 0, none⟩ = some (.slice ykp ykey.length ykc) := (by exact cell_of_row _ _ _ _ _ _ ((hg5.block _ s4.out (fun e => Nat.lt_irrefl _ (OB.out _ e.symm))).trans G4.out)); clear ho5 hg5)
        go_roundw
        case rel => exact ⟨k + 1, _, _, _, _, _, by omega, rfl, rfl, by first | rfl | go_num, N5.out⟩
        case measure => simp [intOf]; omega
      · obtain rfl : k = N := by omega
        have ll : ¬ (k : Int) < (k : Int) := by omega
        go_wp2
        go_ret
        exact ⟨ys, _, rfl, hI.out.row, by rw [hI.out.ents, HRD.out], by rw [hI.out.len]; exact hC8, hI.out.kept⟩
end Go.Proofs.YtjblicgbdecbcaaGreat
namespace Go.Proofs.YtjblicgbdecbcaaGreat.Bq
open Go.Proofs.YtjblicgbdecbcaaGreat
open Go.Proofs.YtjblicgbdecbcaaGreat.Sk (Ent)

theorem blk_len {l : List Ent} (h : okB l = true) : (blk l).length ≤ 9005 := by
  have := rawB_len h
  unfold blk
  rw [List.length_append, be_length]
  omega
theorem rdL_bound : ∀ (n : Nat) (a r : List UInt8) {e : Ent}, a.length + 64 * n ≤ 1000000 → e ∈ rdL n a r → e.key.length ≤ 9223372036854775807 ∧ e.val.length ≤ 9223372036854775807
  | 0, _, _, _, _, h => by cases h
  | n + 1, a, r, e, hb, h => by
    have hk := rdE_key a r
    have hv := rdE_val a r
    rcases List.mem_cons.1 h with rfl | h
    · omega
    · exact rdL_bound n _ _ (by omega) h
theorem rd_bound {b : List UInt8} {e : Ent} (h : e ∈ rd b) : e.key.length ≤ 9223372036854775807 ∧ e.val.length ≤ 9223372036854775807 := rdL_bound _ _ _ (by simp only [List.length_nil]; omega) h
theorem parse_long {b : List UInt8} (h : 9005 < b.length) : parse b = none := parse_none (fun l hl e => by
  have := blk_len hl
  rw [e] at this
  omega)
end Go.Proofs.YtjblicgbdecbcaaGreat.Bq
namespace Go.Proofs.YtjblicgbdecbcaaGreat
open Go.RowKit
open Sk (Ent)

/-- Parse's answer. -/
def Parsed (w : World) (b : List UInt8) (e : Ending) (w' : World) : Prop :=
  (∃ (L : List Ent) (ao : Option Addr) (c : Nat) (ys : List EV), Bq.parse b = some L ∧ e = .returned (.tuple #[.slice ao ys.length c, .int .i64 0]) ∧ RSrc entKind w' ao ys.length c ys ∧ ys.map (·.e) = L ∧ (∀ ad, ao = some ad → w.heap.size ≤ ad.block) ∧ Below w.heap.size w w' ∧ ∀ y ∈ ys, HeldT w' y) ∨
  (Bq.parse b = none ∧ e = .returned (.tuple #[.slice none 0 0, .int .i64 2]) ∧ Below w.heap.size w w')
theorem parsed_no {w w' : World} {b : List UInt8} (h : Bq.parse b = none) (hb : Below w.heap.size w w') : Parsed w b (.returned (.tuple #[.slice none 0 0, .int .i64 2])) w' := .inr ⟨h, rfl, hb⟩
theorem parsed_yes {w w' : World} {b : List UInt8} {L : List Ent} {ao : Option Addr} {n c : Nat} {ys : List EV} (h : Bq.parse b = some L) (hs : RSrc entKind w' ao n c ys) (he : ys.map (·.e) = L) (hf : ∀ ad, ao = some ad → w.heap.size ≤ ad.block) (hb : Below w.heap.size w w') (ht : ∀ y ∈ ys, HeldT w' y) : Parsed w b (.returned (.tuple #[.slice ao n c, .int .i64 0])) w' := by
  have := hs.len
  subst this
  exact .inl ⟨L, ao, c, ys, h, rfl, hs, he, hf, hb, ht⟩
set_option maxHeartbeats 2000000 in
set_option maxRecDepth 100000 in
theorem parse_any (ao : Option Addr) (m c : Nat) (b : List UInt8) (w : World) (hs : Src w ao m c b) :
    Calls Tryz.prog 77 #[.slice ao m c] w (Parsed w b) := by
  have hl := hs.len
  by_cases h9 : 9005 < m
  · have h9i : 9005 < (m : Int) := by omega
    have PN := keep (Bq.parse_long (b := b) (by omega))
    clear hs hl
    go_enter Tryz.func77, Tryz.ntmps77
    go_wp2
    go_ret2
    exact parsed_no PN.out (Below.refl _ _)
  · have h9i : ¬ 9005 < (m : Int) := by omega
    have HS := keep hs
    obtain ⟨W1, hW1⟩ : ∃ W1, w.alloc (.cells #[.slice ao m c] 114) = W1 := ⟨_, rfl⟩
    have b1 : Hid (Below w.heap.size w W1) := by rw [← hW1]; exact (Below.refl _ _).alloc (Nat.le_refl _) _
    have g1 : Hid (W1.heap[w.heap.size]? = some (.cells #[.slice ao m c] 114 (0, 0))) := by rw [← hW1]; exact heap_alloc_new w _
    have D1 : Hid (Rd w.heap.size W1 b) := ⟨ao, c, by rw [hl]; exact g1.out, by rw [hl]; exact hs.below b1.out⟩
    have TE := keep (takeEntries_any w.heap.size b W1 D1.out (by omega))
    clear hs hl
    go_enter Tryz.func77, Tryz.ntmps77
    go_wp2_with fail
    refine TE.out.mono ?_
    rintro e w2 ⟨ys, v, rfl, hr2, he2, hy8, hk2⟩
    obtain ⟨a2, c2, rfl, hs2⟩ := hr2.src
    have B2 := keep ((Kept.of_below (U := (· = w.heap.size)) b1.out).trans hk2 |>.below (Nat.le_refl _) (fun g hg => by rw [hg]; exact Nat.le_refl _))
    have S2 := keep hs2
    have T2 : Hid (∀ y ∈ ys, HeldT w2 y) := hr2.each
    have HE := keep he2
    have FAR : Hid (∀ ad, a2 = some ad → w.heap.size ≤ ad.block) := fun ad had => by subst had; exact Nat.le_trans b1.out.size (hr2.row.lt _ rfl).1
    have BB := keep (build_any a2 ys.length c2 ys w2 hs2 (fun y hy => by
      have hm : y.e ∈ Bq.rd b := by rw [← he2]; exact List.mem_map_of_mem hy
      exact Bq.rd_bound hm))
    rw [he2] at BB
    clear hr2 hs2 he2 hk2 TE hW1
    obtain ⟨n, hn⟩ : ∃ n, ys.length = n := ⟨_, rfl⟩
    rw [hn] at BB S2 hy8 ⊢
    clear hn
    go_wp2_with fail
    refine BB.out.mono ?_
    rintro e w3 (⟨hok, a3, c3, rfl, ho3, hb3⟩ | ⟨hok, rfl, hb3⟩)
    · obtain ⟨_, _, e3, hs3, _⟩ := Src.of_own ho3
      cases e3
      have B3 := keep (B2.out.trans (hb3.mono B2.out.size))
      have S3 := keep (S2.out.below entKind_ok hb3)
      have T3 : Hid (∀ y ∈ ys, HeldT w3 y) := fun y hy => (T2.out y hy).turn (T5.of_below hb3)
      have EQ := keep (equal_any a3 _ c3 _ ao m c b w3 hs3 (HS.out.below B3.out))
      have OK := keep hok
      clear hs3 ho3 hb3 hok BB
      obtain ⟨nb, hnb⟩ : ∃ nb, (Bq.blk (Bq.rd b)).length = nb := ⟨_, rfl⟩
      rw [hnb] at EQ ⊢
      clear hnb
      by_cases hq : Bq.blk (Bq.rd b) = b
      · rw [decide_eq_true hq] at EQ
        have PS : Hid (Bq.parse b = some (Bq.rd b)) := if_pos ⟨OK.out, hq⟩
        clear hq
        go_wp2_with fail
        refine EQ.out.mono ?_
        rintro e w4 ⟨rfl, rfl⟩
        go_wp2
        go_ret2
        exact parsed_yes PS.out S3.out HE.out FAR.out B3.out T3.out
      · rw [decide_eq_false hq] at EQ
        have PS : Hid (Bq.parse b = none) := if_neg (fun h => hq h.2)
        clear hq
        go_wp2_with fail
        refine EQ.out.mono ?_
        rintro e w4 ⟨rfl, rfl⟩
        go_wp2
        go_ret2
        exact parsed_no PS.out B3.out
    · have B3 := keep (B2.out.trans (hb3.mono B2.out.size))
      have PS : Hid (Bq.parse b = none) := if_neg (fun h => by rw [hok] at h; cases h.1)
      clear hb3 hok BB
      go_wp2
      go_ret2
      exact parsed_no PS.out B3.out
end Go.Proofs.YtjblicgbdecbcaaGreat
namespace Go.Proofs.YtjblicgbdecbcaaGreat.Bq
open Go.Proofs.YtjblicgbdecbcaaGreat
open Go.Proofs.YtjblicgbdecbcaaGreat.Sk (Ent)

/-- What stands behind a block turns nothing of what is read. -/
theorem rd_more {l : List Ent} (h : okB l = true) (t : List UInt8) : rd (blk l ++ t) = l := by
  have hl := okB_len h
  have f1 := nOf_put (n := l.length) (r := rowB [] l ++ (be 4 (crc (rawB l)).toNat ++ t)) (by omega)
  have e0 : blk l ++ t = num l.length ++ (rowB [] l ++ (be 4 (crc (rawB l)).toNat ++ t)) := by simp only [blk, rawB, List.append_assoc]
  unfold rd
  rw [e0, f1.1, f1.2, Nat.min_eq_left hl.2]
  exact rd_row l [] _ (okB_may h)
/-- No block begins with another one. -/
theorem blk_free {l l' : List Ent} (h : okB l = true) (h' : okB l' = true) {t : List UInt8} (e : blk l = blk l' ++ t) : t = [] := by
  have e1 : l = l' := by rw [← rd_blk h, e, rd_more h']
  rw [e1] at e
  have := congrArg List.length e
  rw [List.length_append] at this
  exact List.length_eq_zero_iff.1 (by omega)
theorem parse_cut {l : List Ent} (h : okB l = true) {k : Nat} (hk : k < (blk l).length) : parse ((blk l).take k) = none := parse_none (fun l' h' e => by
  have e1 : blk l = blk l' ++ (blk l).drop k := by rw [e, List.take_append_drop]
  have := congrArg List.length (blk_free h h' e1)
  rw [List.length_drop, List.length_nil] at this
  omega)
theorem parse_on {l : List Ent} (h : okB l = true) (x : UInt8) : parse (blk l ++ [x]) = none := parse_none (fun l' h' e => by
  have := blk_free h' h e
  cases this)
theorem set_split8 (t : List UInt8) (q : Nat) (y : UInt8) (hq : q < t.length) : t = t.take q ++ fn t q :: t.drop (q + 1) ∧ t.set q y = t.take q ++ y :: t.drop (q + 1) := by
  have e : fn t q = t[q] := by simp [fn, List.getD, hq]
  refine ⟨?_, ?_⟩
  · rw [e, ← List.drop_eq_getElem_cons hq, List.take_append_drop]
  · rw [List.set_eq_take_append_cons_drop, if_pos hq]
theorem set_ne8 {t : List UInt8} {q : Nat} {y : UInt8} (hq : q < t.length) (hy : y ≠ fn t q) : t.set q y ≠ t := fun h => by
  have h1 : (t.set q y)[q]? = some y := by simp [hq]
  rw [h] at h1
  apply hy
  simp [fn, List.getD, h1]
theorem parse_turned {l : List Ent} {k : Nat} (hk : k < (blk l).length) {y : UInt8} (hy : y ≠ fn (blk l) k) : parse ((blk l).set k y) = none := parse_none (fun l' h' e => by
  have hl := congrArg List.length e
  rw [List.length_set] at hl
  simp only [blk, List.length_append, be_length] at hl
  have hlen : (rawB l').length = (rawB l).length := by omega
  by_cases hkn : k < (rawB l).length
  · have hset : (blk l).set k y = (rawB l).set k y ++ be 4 (crc (rawB l)).toNat := by
      unfold blk
      rw [List.set_append_left _ _ hkn]
    rw [hset] at e
    unfold blk at e
    obtain ⟨e1, e2⟩ := List.append_inj e (by rw [List.length_set]; exact hlen)
    have hc : (crc (rawB l')).toNat = (crc (rawB l)).toNat := by
      have h1 := congrArg big e2
      rwa [big_be 4 _ (by have := (crc (rawB l')).toNat_lt; have e : (256 : Nat) ^ 4 = 4294967296 := rfl; omega), big_be 4 _ (by have := (crc (rawB l)).toNat_lt; have e : (256 : Nat) ^ 4 = 4294967296 := rfl; omega)] at h1
    have hc' : crc (rawB l') = crc (rawB l) := UInt32.toNat_inj.1 hc
    obtain ⟨s1, s2⟩ := set_split8 (rawB l) k y hkn
    rw [e1, s2] at hc'
    have hc2 : crc ((rawB l).take k ++ y :: (rawB l).drop (k + 1)) = crc ((rawB l).take k ++ fn (rawB l) k :: (rawB l).drop (k + 1)) := by rw [hc', ← s1]
    have := crc_turned hc2
    apply hy
    rw [this]
    unfold blk
    exact (fn_left _ _ _ hkn).symm
  · have hset : (blk l).set k y = rawB l ++ (be 4 (crc (rawB l)).toNat).set (k - (rawB l).length) y := by
      unfold blk
      rw [List.set_append_right _ _ (by omega)]
    rw [hset] at e
    unfold blk at e
    obtain ⟨e1, e2⟩ := List.append_inj e hlen
    rw [e1] at e2
    have hk2 : k - (rawB l).length < (be 4 (crc (rawB l)).toNat).length := by
      simp only [blk, List.length_append] at hk
      omega
    refine set_ne8 hk2 (fun hyy => hy ?_) e2.symm
    rw [hyy]
    unfold blk fn
    simp only [List.getD, List.getElem?_append_right (show (rawB l).length ≤ k by omega)])
end Go.Proofs.YtjblicgbdecbcaaGreat.Bq
