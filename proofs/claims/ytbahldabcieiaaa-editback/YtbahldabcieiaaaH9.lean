/- Rows of notes made by a call; the walk of copies. -/
import Derived.Test.YtbahldabcieiaaaH8
namespace Go.Proofs.Ytbahldabcieiaaa
open Go.RowKit
open Ed (Nt)

theorem OwnM.held {B : Nat} {w : World} {y : MV} (h : OwnM B w y) : metaKind.held w y := by
  obtain ⟨a1, c1, e1, h1, _⟩ := Src.of_own h.1
  obtain ⟨a2, c2, e2, h2, _⟩ := Src.of_own h.2
  cases e1
  cases e2
  exact ⟨h1, h2⟩
theorem OwnM.block {B : Nat} {w w' : World} {y : MV} (h : OwnM B w y) (hb : Below w.heap.size w w') : OwnM B w' y := ⟨own_block h.1 (fun g hg => hb.block g (own_size h.1 hg)), own_block h.2 (fun g hg => hb.block g (own_size h.2 hg))⟩
theorem OwnM.base {B B' : Nat} {w : World} {y : MV} (h : OwnM B w y) (hb : B' ≤ B) : OwnM B' w y := ⟨own_base h.1 (fun g hg => Nat.le_trans hb (h.1.lt g hg).1), own_base h.2 (fun g hg => Nat.le_trans hb (h.2.lt g hg).1)⟩
/-- A row of notes that was made at or beyond B. -/
structure Mets (B : Nat) (w : World) (v : Value) (ys : List MV) : Prop where
  row : w.ownsRow B 52 5 v ys.length (rv metaKind ys)
  each : ∀ y ∈ ys, OwnM B w y
theorem Mets.nil (B : Nat) (w : World) : Mets B w (.slice none 0 0) [] := ⟨World.ownsRow_nil _ _ _ _, fun y h => by cases h⟩
theorem Mets.below {B : Nat} {w w' : World} {v : Value} {ys : List MV} (h : Mets B w v ys) (hb : Below w.heap.size w w') : Mets B w' v ys := ⟨own_block h.row (fun g hg => hb.block g (own_size h.row hg)), fun y hy => (h.each y hy).block hb⟩
theorem OwnM.grown {B : Nat} {w w' : World} {v : Value} {n : Nat} {xs : List Value} {y : MV} (h : OwnM B w y) (hv : w.ownsRow B 52 5 v n xs) (hg : w.grownBy w' v.ownBlock) : OwnM B w' y := by
  have one : ∀ {u : Value} {m : Nat} {zs : List Value}, w.ownsRow B 5 1 u m zs → w'.ownsRow B 5 1 u m zs := fun {u m zs} hu => own_block hu (fun g hgg => hg.block g (own_size hu hgg) (fun e1 => by
    obtain ⟨c1, h1⟩ := own_tag hu hgg
    obtain ⟨c2, h2⟩ := own_tag hv e1.symm
    rw [h1] at h2
    cases h2))
  exact ⟨one h.1, one h.2⟩
theorem Mets.more {B : Nat} {w w' : World} {v v' : Value} {ys : List MV} {y : MV} (h : Mets B w v ys) (hy : OwnM B w y) (ho : w'.ownsRow B 52 5 v' (ys.length + 1) (rv metaKind (ys ++ [y]))) (hg : w.grownBy w' v.ownBlock) : Mets B w' v' (ys ++ [y]) :=
  ⟨by rw [List.length_append]; exact ho, fun z hz => by
    rcases List.mem_append.1 hz with hz | hz
    · exact (h.each z hz).grown h.row hg
    · rw [List.mem_singleton.1 hz]; exact hy.grown h.row hg⟩
theorem Mets.src {B : Nat} {w : World} {v : Value} {ys : List MV} (h : Mets B w v ys) : ∃ ao c, v = .slice ao ys.length c ∧ RSrc metaKind w ao ys.length c ys ∧ c ≤ maxLen := RSrc.own metaKind_ok h.row (fun y hy => (h.each y hy).held)
/-- How far a loop has come that copies notes. -/
structure CopI (w : World) (l : List Nt) (ys : List MV) (k : Nat) (v : Value) (wr : World) : Prop where
  row : Mets w.heap.size wr v ys
  val : ys.map (·.m) = l
  below : Below w.heap.size w wr
  len : ys.length ≤ k
theorem take_more {l : List Nt} {k : Nat} {m : Nt} (h : l[k]? = some m) : l.take (k + 1) = l.take k ++ [m] := by rw [List.take_add_one, h]; rfl
set_option maxHeartbeats 4000000 in
set_option maxRecDepth 100000 in
theorem copies_any (ao : Option Addr) (n c : Nat) (es : List MV) (w : World) (hsrc : RSrc metaKind w ao n c es) (hn : n ≤ 1000000) (hsm : ∀ y ∈ es, y.m.first.length ≤ 140737488355328 ∧ y.m.last.length ≤ 140737488355328) :
    Calls Try.prog 26 #[.slice ao n c] w fun e w' => ∃ v ys, e = .returned v ∧ Mets w.heap.size w' v ys ∧ ys.map (·.m) = es.map (·.m) ∧ Below w.heap.size w w' := by
  obtain ⟨i0, hi0, hz0, hz1, hz2⟩ := info_partsM infoMeta
  have SRC := keep hsrc
  have SM := keep hsm
  have HN := keep hsrc.len
  have FULL : Hid ((es.map (·.m)).take n = es.map (·.m)) := List.take_of_length_le (by rw [List.length_map, hsrc.len]; exact Nat.le_refl _)
  clear hsrc hsm
  go_enter Try.func26, Try.ntmps26
  go_wp2
  go_loopw [3, 8] (fun v i wr => ∃ (k : Nat) (ys : List MV), k ≤ n ∧ i = .int .i64 (k : Int) ∧ Hid (CopI w ((es.map (·.m)).take k) ys k v wr)) (fun _ i _ => n - (intOf i).toNat)
  case atStart => exact ⟨0, [], Nat.zero_le _, rfl, Mets.nil _ _, rfl, Below.refl _ _, Nat.le_refl _⟩
  case round =>
    obtain ⟨k, ys, hk, rfl, hI⟩ := hrel
    have HB := keep hI.out.below
    by_cases hkn : k < n
    · have NL := keep hkn
      obtain ⟨b, off, rfl, _, _⟩ := SRC.out.form metaKind_ok (by omega)
      obtain ⟨y, hy⟩ : ∃ y, es[k]? = some y := ⟨es[k]'(by rw [HN.out]; exact hkn), List.getElem?_eq_getElem _⟩
      have SE : Hid (∀ w', Below wr.heap.size wr w' → RSrc metaKind w' (some ⟨b, off, none⟩) n c es) := fun w' hb => SRC.out.below metaKind_ok (HB.out.trans (hb.mono HB.out.size))
      obtain ⟨p0, p1, p2, p3, p4⟩ := meta_cells (SE.out wr (Below.refl _ _)) hy
      have SMK := SM.out y (List.mem_of_getElem? hy)
      have CP : Hid (∀ w', Below wr.heap.size wr w' → _) := fun w' hb => mcopied_any y w' SMK.1 SMK.2 ((SE.out w' hb).held y (List.mem_of_getElem? hy))
      have HY : Hid ((es.map (·.m))[k]? = some y.m) := by show _ = _; rw [List.getElem?_map, hy]; rfl
      clear hy SMK
      have ll : (k : Int) < (n : Int) := by omega
      have l0 : (0 : Int) ≤ (k : Int) := by omega
      obtain ⟨yfp, yfc, ylp, ylc, ⟨ynum, ylevel, ycount, yfirst, ylast⟩⟩ := y
      unfold mv at CP
      simp only at p0 p1 p2 p3 p4 CP HY
      obtain ⟨W2, hW2⟩ : ∃ W2, wr.alloc (.cells #[.int .i64 ynum, .int .i64 ylevel, .int .i64 ycount, .slice yfp yfirst.length yfc, .slice ylp ylast.length ylc] 52) = W2 := ⟨_, rfl⟩
      have b2 : Hid (Below wr.heap.size wr W2) := by rw [← hW2]; exact (Below.refl _ _).alloc (Nat.le_refl _) _
      have g2 : Hid (W2.heap[wr.heap.size]? = some (.cells #[.int .i64 ynum, .int .i64 ylevel, .int .i64 ycount, .slice yfp yfirst.length yfc, .slice ylp ylast.length ylc] 52)) := by rw [← hW2]; exact heap_alloc_new wr _
      have c0 : W2.cell? ⟨wr.heap.size, 0, none⟩ = some (.int .i64 ynum) := cell_of_row _ _ _ _ _ _ g2.out
      have c1 : W2.cell? ⟨wr.heap.size, 1, none⟩ = some (.int .i64 ylevel) := cell_of_row _ _ _ _ _ _ g2.out
      have c2 : W2.cell? ⟨wr.heap.size, 2, none⟩ = some (.int .i64 ycount) := cell_of_row _ _ _ _ _ _ g2.out
      have c3 : W2.cell? ⟨wr.heap.size, 3, none⟩ = some (.slice yfp yfirst.length yfc) := cell_of_row _ _ _ _ _ _ g2.out
      have c4 : W2.cell? ⟨wr.heap.size, 4, none⟩ = some (.slice ylp ylast.length ylc) := cell_of_row _ _ _ _ _ _ g2.out
      have TM := keep (take_more HY.out)
      go_wp2_with fail
      refine (CP.out W2 b2.out).mono ?_
      rintro e w3 ⟨z, rfl, hze, hzo, hb3⟩
      have HZE := keep hze
      have b3 := keep (hb3.alloc hb3.size (.cells (metaKind.vals z).toArray 52))
      have BW3 := keep (b2.out.trans (b3.out.mono b2.out.size))
      have E3 := keep (hI.out.row.below BW3.out)
      have BL3 := keep (HB.out.trans (BW3.out.mono HB.out.size))
      have O3 := keep ((hzo.base (Nat.le_trans HB.out.size b2.out.size)).block ((Below.refl w3.heap.size w3).alloc (Nat.le_refl _) (.cells (metaKind.vals z).toArray 52)))
      have rc := keep (rec_cells (k := metaKind) w3 52 z)
      have hyl := hI.out.len
      have hyl2 : ys.length ≤ 1000000 := by omega
      obtain ⟨zfp, zfc, zlp, zlc, ⟨znum, zlevel, zcount, zfirst, zlast⟩⟩ := z
      simp only [metaKind] at b3 E3 O3 BL3 BW3
      simp only
      clear hze hzo hb3 CP c0 c1 c2 c3 c4 p0 p1 p2 p3 p4 hW2
      go_wp2_with (first
        | (at_builtin; go_loud (refine wpList_append_rec metaKind_ok rfl _ _ 28 52 rfl w.heap.size i0 _ 72 Try.underlying28 hi0 hz0 hz1 hz2 rfl u3 ys.length ys rfl E3.out.row _ 1 (⟨zfp, zfc, zlp, zlc, ⟨znum, zlevel, zcount, zfirst, zlast⟩⟩ : MV) rfl rc.out (by unfold maxLen; omega) (by omega) (Nat.le_trans BL3.out.size (Nat.le_refl _)) ?_); intro v5 w5 ho5 hg5; have HO5 := keep ho5; have HG5 := keep hg5; have BL5 := keep (BL3.out.grown hg5 BL3.out.size (fun j hj => (E3.out.row.lt j hj).1)); clear ho5 hg5))
      have E5 := keep (E3.out.more O3.out HO5.out HG5.out)
      go_roundw
      case rel => exact ⟨k + 1, ys ++ [⟨zfp, zfc, zlp, zlc, ⟨znum, zlevel, zcount, zfirst, zlast⟩⟩], by omega, by go_num, E5.out, by rw [List.map_append, hI.out.val, TM.out]; exact congrArg (_ ++ [·]) HZE.out, BL5.out, by rw [List.length_append, List.length_singleton]; have := hI.out.len; omega⟩
      case measure => simp [intOf]; omega
    · obtain rfl : k = n := by omega
      go_wp2
      go_ret
      exact ⟨_, ys, rfl, hI.out.row, by rw [hI.out.val, FULL.out], HB.out⟩
end Go.Proofs.Ytbahldabcieiaaa
