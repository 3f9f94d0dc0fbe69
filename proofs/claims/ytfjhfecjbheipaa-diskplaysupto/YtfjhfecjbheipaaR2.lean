/- The walks of the document's put and drop. -/
import Derived.Test.YtfjhfecjbheipaaR1
import Derived.Test.YtfjhfecjbheipaaDp
namespace Go.Proofs.Ytfjhfecjbheipaa
open Go.RowKit
open Dk (File Disk)

theorem op_less : ∀ a b : List UInt8, Op.bytesLess a b = less a b
  | _, [] => by cases ‹List UInt8› <;> rfl
  | [], _ :: _ => rfl
  | a :: x, b :: y => by
    have ih := op_less x y
    simp only [Op.bytesLess, less, ih]
theorem infoR : (Try.prog.info? 71).map (fun i => (i.zero, i.size, i.bytes)) = some (some (.agg #[.string ⟨#[]⟩, .int .i64 0, .slice none 0 0]), 3, 48) := by kernel_rfl
/-- Rows of files that a call has begun: those of fs, their bytes where they were. -/
structure Begun (U : Nat → Prop) (w wr : World) (v : Value) (fs : List File) (es : List Ent) : Prop where
  own : wr.ownsRow w.heap.size 71 3 v fs.length (rv fileKind es)
  held : ∀ e ∈ es, Steady U w fun w => fileKind.held w e
  same : es.map plainE = fs.map plainF
  bel : Below w.heap.size w wr
theorem Begun.nil (U : Nat → Prop) (w wr : World) (h : Below w.heap.size w wr) : Begun U w wr (.slice none 0 0) [] [] := ⟨World.ownsRow_nil _ _ _ _, (fun _ h => by cases h), rfl, h⟩
/-- One file more. -/
theorem Begun.more {U : Nat → Prop} {w wr w' w5 : World} {v v5 : Value} {fs : List File} {es : List Ent} (h : Begun U w wr v fs es) (hb : Below wr.heap.size wr w') {f : File} {e : Ent} (he : Steady U w fun w => fileKind.held w e) (hp : plainE e = plainF f)
    (ho : w5.ownsRow w.heap.size 71 3 v5 (fs.length + 1) (rv fileKind (es ++ [e]))) (hg : w'.grownBy w5 v.ownBlock) : Begun U w w5 v5 (fs ++ [f]) (es ++ [e]) :=
  ⟨by rw [List.length_append]; exact ho, fun x hx => by
    rcases List.mem_append.1 hx with h1 | h1
    · exact h.held x h1
    · rw [List.mem_singleton] at h1; subst h1; exact he, by rw [List.map_append, List.map_append, h.same, List.map_cons, hp]; rfl,
    (h.bel.trans (hb.mono h.bel.size)).grown hg (Nat.le_trans h.bel.size hb.size) (fun g hg => (h.own.lt g hg).1)⟩
/-- At its end it is rows of files. -/
theorem Begun.rows {U : Nat → Prop} {w wr w' : World} {v : Value} {fs : List File} {es : List Ent} (h : Begun U w wr v fs es) (hU : ∀ g, U g → g < w.heap.size) (hk : Kept U wr w') : ∃ ao c, v = .slice ao fs.length c ∧ Rows4 U w' ao fs.length c es fs := by
  obtain ⟨ao, c, rfl, _, _⟩ := RSrc.own fileKind_ok h.own (fun e he => h.held e he wr (Kept.of_below h.bel))
  refine ⟨ao, c, rfl, ⟨fun w2 hk2 => ?_, h.same, rfl⟩⟩
  obtain ⟨ao', c', e, hr, _⟩ := RSrc.own fileKind_ok (own_steady h.own hU w2 (hk.trans hk2)) (fun e he => h.held e he w2 ((Kept.of_below h.bel).trans (hk.trans hk2)))
  cases e
  exact hr
theorem Rows4.held {U : Nat → Prop} {w : World} {ao : Option Addr} {n c : Nat} {es : List Ent} {fs : List File} (h : Rows4 U w ao n c es fs) {e : Ent} (he : e ∈ es) : Steady U w fun w => fileKind.held w e := fun w' hk => (h.rows w' hk).held e he

set_option maxHeartbeats 1000000 in
set_option maxRecDepth 100000 in
theorem rdrop_any (U : Nat → Prop) (q : Nat) (N : Int) (ao : Option Addr) (n c : Nat) (es : List Ent) (fs : List File) (done left : Int) (dark : Bool) (nm : List UInt8) (w : World) (hb : RBox w q N (.slice ao n c) done left dark) (h : Rows4 U w ao n c es fs) (hn : n ≤ 1099511627776) (hq : U q) (hU : ∀ g, U g → g < w.heap.size) :
    Calls Try.prog 52 #[.pointer (some ⟨q, 0, none⟩), .string ⟨nm.toArray⟩] w fun e w' => e = .returned (.tuple #[]) ∧ (∃ ao' c' es', RBox w' q N (.slice ao' (Dk.drop fs nm).length c') done left dark ∧ Rows4 U w' ao' (Dk.drop fs nm).length c' es' (Dk.drop fs nm)) ∧ Kept (At q) w w' := by
  have HR := keep h
  have HB := keep hb
  have HLEN := keep h.len
  have c1 := hb.c1
  obtain ⟨i0, hi, hz0, hz1, hz2⟩ := info_parts3 infoR
  clear h hb
  go_enter Try.func52, Try.ntmps52
  go_wp2_with fail
  go_loopw [4, 5] (fun v i wr => ∃ (t : Nat) (es' : List Ent), t ≤ n ∧ i = .int .i64 (t : Int) ∧ Hid (Begun U w wr v (Dk.drop (fs.take t) nm) es')) (fun _ i _ => n - (intOf i).toNat)
  case atStart => exact ⟨0, [], Nat.zero_le _, rfl, Begun.nil U w w (Below.refl _ _)⟩
  case round =>
    obtain ⟨t, es', ht, rfl, hg⟩ := hrel
    have cr := below_cell hg.out.bel c1
    rcases Nat.lt_or_ge t n with hlt | hge
    · obtain ⟨f, hf⟩ : ∃ f, fs[t]? = some f := ⟨fs[t]'(by have := HLEN.out; omega), List.getElem?_eq_getElem _⟩
      obtain ⟨b, off, rfl, _, hat⟩ := (HR.out.below hg.out.bel).at_ (by omega)
      obtain ⟨p, k, hek, hc0, hc1, hc2⟩ := hat t f hf
      have hhe := keep (HR.out.held (List.mem_of_getElem? hek))
      have j0 : (0 : Int) ≤ (t : Int) := by omega
      have j1 : (t : Int) < (n : Int) := by omega
      have hst := keep (show Dk.drop (fs.take (t + 1)) nm = Dk.drop (fs.take t) nm ++ (if f.name = nm then [] else [f]) by rw [List.take_add_one, hf]; exact Dk.drop_snoc _ f nm)
      obtain ⟨fnm, fsf, fbs⟩ := f
      clear hat hf hek
      by_cases hn2 : fnm = nm
      · have e2 : (fnm == nm) = true := by simpa using hn2
        have hnx : Hid (Begun U w wr u4 (Dk.drop (fs.take (t + 1)) nm) es') := by
          show Begun U w wr u4 (Dk.drop (fs.take (t + 1)) nm) es'
          rw [hst.out, if_pos hn2, List.append_nil]
          exact hg.out
        clear hn2
        go_wp2
        go_roundw
        case rel => exact ⟨t + 1, es', by omega, by first | rfl | go_num, hnx⟩
        case measure => simp [intOf]; omega
      · have e2 : (fnm == nm) = false := by simpa using hn2
        have hfew : (Dk.drop (fs.take t) nm).length + 1 ≤ 1099511627777 := by
          have h1 := Dk.drop_length (fs.take t) nm
          rw [List.length_take] at h1
          omega
        rw [if_neg hn2] at hst
        clear hn2
        have b4 : Below wr.heap.size wr (wr.alloc (.cells #[.string ⟨fnm.toArray⟩, .int .i64 (fsf : Int), .slice p fbs.length k] 71)) := (Below.refl _ _).alloc (Nat.le_refl _) _
        have hown := keep (own_block (w' := wr.alloc (.cells #[.string ⟨fnm.toArray⟩, .int .i64 (fsf : Int), .slice p fbs.length k] 71)) hg.out.own (fun g hgg => b4.block g (own_size hg.out.own hgg)))
        have hsz4 := keep (show w.heap.size ≤ (wr.alloc (.cells #[.string ⟨fnm.toArray⟩, .int .i64 (fsf : Int), .slice p fbs.length k] 71)).heap.size from Nat.le_trans hg.out.bel.size b4.size)
        have B4 := keep b4
        clear b4
        go_wp2_with (at_builtin; refine wpList_append_rec fileKind_ok rfl _ _ 22 71 rfl w.heap.size i0 _ 48 Try.underlying22 hi hz0 hz1 hz2 rfl u4 _ es' rfl hown.out _ 1 (⟨fnm, (fsf : Int), p, k, fbs⟩ : Ent) rfl (rec_cells (k := fileKind) _ _ (⟨fnm, (fsf : Int), p, k, fbs⟩ : Ent)) (by unfold maxLen; omega) (by omega) hsz4.out ?_; intro v5 w5 ho5 hg5; have ho6 := keep ho5; have hg6 := keep hg5; clear ho5 hg5)
        have hnx : Hid (Begun U w w5 v5 (Dk.drop (fs.take (t + 1)) nm) (es' ++ [(⟨fnm, (fsf : Int), p, k, fbs⟩ : Ent)])) := by
          show Begun U w w5 v5 (Dk.drop (fs.take (t + 1)) nm) (es' ++ [(⟨fnm, (fsf : Int), p, k, fbs⟩ : Ent)])
          rw [hst.out]
          exact hg.out.more B4.out hhe.out rfl ho6.out hg6.out
        clear hst
        go_wp2
        go_roundw
        case rel => exact ⟨t + 1, es' ++ [(⟨fnm, (fsf : Int), p, k, fbs⟩ : Ent)], by omega, by first | rfl | go_num, hnx⟩
        case measure => simp [intOf]; omega
    · obtain rfl : t = n := by omega
      have hall : Hid (Begun U w wr u4 (Dk.drop fs nm) es') := by
        have := hg.out
        rwa [List.take_of_length_le (by have := HLEN.out; omega)] at this
      have hrb := HB.out.same (w' := wr) (hg.out.bel.block q HB.out.lt)
      have f0 := hrb.warm
      have HRB := keep hrb
      clear hrb hg
      obtain ⟨ao1, c2, rfl⟩ := own_slice hall.out.own
      go_wp2
      go_end0
      obtain ⟨ao', c', e, hrows⟩ := hall.out.rows hU (w' := wr.setCell ⟨q, 1, none⟩ (.slice ao1 (Dk.drop fs nm).length c2)) ((Kept.refl _ _).setCell (p := ⟨q, 1, none⟩) (.inl hq) _)
      cases e
      exact ⟨rfl, ⟨_, _, es', HRB.out.set1 _, hrows⟩, (Kept.of_below hall.out.bel).at_set _ _⟩
set_option maxHeartbeats 1000000 in
set_option maxRecDepth 100000 in
theorem rput_any (U : Nat → Prop) (q : Nat) (N : Int) (ao : Option Addr) (n c : Nat) (es : List Ent) (fs : List File) (done left : Int) (dark : Bool) (gn : List UInt8) (gs : Nat) (gp : Option Addr) (gk : Nat) (gb : List UInt8) (w : World) (hb : RBox w q N (.slice ao n c) done left dark) (h : Rows4 U w ao n c es fs) (hn : n ≤ 1099511627776) (hq : U q) (hU : ∀ g, U g → g < w.heap.size) (hr : Dk.Rising fs) (hh : Steady U w fun w => Src w gp gb.length gk gb) :
    Calls Try.prog 29 #[.pointer (some ⟨q, 0, none⟩), .agg #[.string ⟨gn.toArray⟩, .int .i64 (gs : Int), .slice gp gb.length gk]] w fun e w' => e = .returned (.tuple #[]) ∧ (∃ ao' c' es', RBox w' q N (.slice ao' (Dk.put fs ⟨gn, gs, gb⟩).length c') done left dark ∧ Rows4 U w' ao' (Dk.put fs ⟨gn, gs, gb⟩).length c' es' (Dk.put fs ⟨gn, gs, gb⟩)) ∧ Kept (At q) w w' := by
  have HR := keep h
  have HB := keep hb
  have HLEN := keep h.len
  have HH := keep hh
  have HRI := keep hr
  have c1 := hb.c1
  obtain ⟨i0, hi, hz0, hz1, hz2⟩ := info_parts3 infoR
  clear h hb hh hr
  go_enter Try.func29, Try.ntmps29
  go_wp2_with fail
  have hW : ∃ W0, w.alloc (.cells #[.string ⟨gn.toArray⟩, .int .i64 (gs : Int), .slice gp gb.length gk] 71) = W0 := ⟨_, rfl⟩
  obtain ⟨W0, hW⟩ := hW
  rw [hW]
  have hb0 : Below w.heap.size w W0 := by rw [← hW]; exact (Below.refl _ _).alloc (Nat.le_refl _) _
  have g0 : W0.heap[w.heap.size]? = some (.cells #[.string ⟨gn.toArray⟩, .int .i64 (gs : Int), .slice gp gb.length gk] 71) := by rw [← hW]; exact heap_alloc_new w _
  have G0 := keep g0
  have HB0 := keep hb0
  have hsz : w.heap.size < W0.heap.size := (Array.getElem?_eq_some_iff.1 g0).1
  clear g0 hb0 hW
  have HHE : Hid (Steady U W0 fun w => fileKind.held w (⟨gn, (gs : Int), gp, gk, gb⟩ : Ent)) := fun w' hk' => HH.out w' ((Kept.of_below HB0.out).trans hk')
  go_loopw [4, 5, 6] (fun v dn i wr => ∃ (t : Nat) (es' : List Ent), t ≤ n ∧ i = .int .i64 (t : Int) ∧
      ((dn = .bool false ∧ Hid (∀ g ∈ fs.take t, less g.name gn = true) ∧ Hid (Begun U W0 wr v (fs.take t) es')) ∨ (dn = .bool true ∧ Hid (∃ g ∈ fs.take t, less g.name gn = false) ∧ Hid (Begun U W0 wr v (Dk.put (fs.take t) ⟨gn, gs, gb⟩) es')))) (fun _ _ i _ => n - (intOf i).toNat)
  case atStart => exact ⟨0, [], Nat.zero_le _, rfl, .inl ⟨rfl, (fun g hg => by simp at hg), Begun.nil U W0 W0 (Below.refl _ _)⟩⟩
  case round =>
    obtain ⟨t, es', ht, rfl, hcase⟩ := hrel
    obtain ⟨hk⟩ : Nonempty (Hid (Below W0.heap.size W0 wr)) := by
      rcases hcase with ⟨_, _, hg⟩ | ⟨_, _, hg⟩
      · exact ⟨hg.out.bel⟩
      · exact ⟨hg.out.bel⟩
    rcases Nat.lt_or_ge t n with hlt | hge
    · obtain ⟨f, hf⟩ : ∃ f, fs[t]? = some f := ⟨fs[t]'(by have := HLEN.out; omega), List.getElem?_eq_getElem _⟩
      obtain ⟨b, off, rfl, hbl, hat⟩ := HR.out.at_ (by omega)
      obtain ⟨p, k, hek, hw0, hw1, hw2⟩ := hat t f hf
      have hhe : Hid (Steady U W0 fun w => fileKind.held w (⟨f.name, (f.safe : Int), p, k, f.bytes⟩ : Ent)) := (HR.out.held (List.mem_of_getElem? hek)).below HB0.out
      have j0 : (0 : Int) ≤ (t : Int) := by omega
      have j1 : (t : Int) < (n : Int) := by omega
      have hst := keep (show fs.take (t + 1) = fs.take t ++ [f] by rw [List.take_add_one, hf]; rfl)
      have hri : Hid (Dk.Rising (fs.take t ++ [f])) := by rw [← hst.out]; exact Dk.rising_take HRI.out _
      obtain ⟨fnm, fsf, fbs⟩ := f
      have FACTS : Hid (∀ wx, Below W0.heap.size W0 wx → wx.cell? ⟨q, 1, none⟩ = some (.slice (some ⟨b, off, none⟩) n c) ∧ wx.cell? ⟨w.heap.size, 0, none⟩ = some (.string ⟨gn.toArray⟩) ∧ wx.cell? ⟨w.heap.size, 1, none⟩ = some (.int .i64 (gs : Int)) ∧ wx.cell? ⟨w.heap.size, 2, none⟩ = some (.slice gp gb.length gk) ∧
          wx.cell? ⟨b, off + t * 3, none⟩ = some (.string ⟨fnm.toArray⟩) ∧ wx.cell? ⟨b, off + t * 3 + 1, none⟩ = some (.int .i64 (fsf : Int)) ∧ wx.cell? ⟨b, off + t * 3 + 2, none⟩ = some (.slice p fbs.length k)) := fun wx hx => by
        have hx2 : Below w.heap.size w wx := HB0.out.trans (hx.mono HB0.out.size)
        exact ⟨below_cell hx2 c1, below_cell hx (cell_of_row _ _ _ _ _ _ G0.out), below_cell hx (cell_of_row _ _ _ _ _ _ G0.out), below_cell hx (cell_of_row _ _ _ _ _ _ G0.out), below_cell hx2 hw0, below_cell hx2 hw1, below_cell hx2 hw2⟩
      clear hat hf hek hw0 hw1 hw2
      have hlen : (fs.take t).length ≤ 1099511627776 := by rw [List.length_take]; omega
      have hlen2 : (Dk.put (fs.take t) ⟨gn, gs, gb⟩).length ≤ 1099511627777 := by have := Dk.put_length (fs.take t) ⟨gn, gs, gb⟩; omega
      have hln := keep hlen
      obtain ⟨cr, k0, k1, k2, hc0, hc1, hc2⟩ := FACTS.out wr hk.out
      rcases hcase with ⟨rfl, hle, hg⟩ | ⟨rfl, hex, hg⟩
      · cases hcmp : less fnm gn with
        | true =>
          have hop : Op.bytesLess fnm gn = true := (op_less _ _).trans hcmp
          have e2 : (fnm == gn) = false := by
            rw [beq_eq_false_iff_ne]
            intro e
            rw [e, less_irrefl] at hcmp
            cases hcmp
          have hle2 : Hid (∀ g ∈ fs.take (t + 1), less g.name gn = true) := fun g hg => by
            rw [hst.out] at hg
            rcases List.mem_append.1 hg with h1 | h1
            · exact hle.out g h1
            · rw [List.mem_singleton] at h1; rw [h1]; exact hcmp
          clear hcmp
          go_wp2_with fail
          go_quiet (fail)
          obtain ⟨wS, hwS⟩ : ∃ ws, ws = wr.drewN nq := ⟨_, rfl⟩
          rw [← hwS]
          have ewS := keep (show Below wr.heap.size wr wS by rw [hwS]; exact below_drewN _ _ _)
          have bS := keep (hk.out.trans (ewS.out.mono hk.out.size))
          clear hwS nq
          clear cr k0 k1 k2 hc0 hc1 hc2
          obtain ⟨cr, k0, k1, k2, hc0, hc1, hc2⟩ := FACTS.out wS bS.out
          go_wp2_with fail
          go_quiet (fail)
          obtain ⟨wT, hwT⟩ : ∃ ws, ws = wS.drewN nq := ⟨_, rfl⟩
          rw [← hwT]
          have ewT := keep (show Below wS.heap.size wS wT by rw [hwT]; exact below_drewN _ _ _)
          have bT := keep (bS.out.trans (ewT.out.mono bS.out.size))
          clear hwT nq
          clear cr k0 k1 k2 hc0 hc1 hc2
          obtain ⟨cr, k0, k1, k2, hc0, hc1, hc2⟩ := FACTS.out wT bT.out
          have ba1 := keep (((ewS.out.trans (ewT.out.mono ewS.out.size))).alloc ((ewS.out.trans (ewT.out.mono ewS.out.size))).size (.cells #[.string ⟨fnm.toArray⟩, .int .i64 (fsf : Int), .slice p fbs.length k] 71))
          have ow1 := keep (own_block (w' := wT.alloc (.cells #[.string ⟨fnm.toArray⟩, .int .i64 (fsf : Int), .slice p fbs.length k] 71)) hg.out.own (fun gg hgg => ba1.out.block gg (own_size hg.out.own hgg)))
          have sz1 := keep (show W0.heap.size ≤ (wT.alloc (.cells #[.string ⟨fnm.toArray⟩, .int .i64 (fsf : Int), .slice p fbs.length k] 71)).heap.size from Nat.le_trans hg.out.bel.size ba1.out.size)
          go_wp2_with (at_builtin; refine wpList_append_rec fileKind_ok rfl _ _ 22 71 rfl W0.heap.size i0 _ 48 Try.underlying22 hi hz0 hz1 hz2 rfl u4 _ es' rfl ow1.out _ 1 (⟨fnm, (fsf : Int), p, k, fbs⟩ : Ent) rfl (rec_cells (k := fileKind) _ _ (⟨fnm, (fsf : Int), p, k, fbs⟩ : Ent)) (by unfold maxLen; omega) (by omega) sz1.out ?_; intro v5 w5 ho hg; have hO1 := keep ho; have hG1 := keep hg; clear ho hg)
          have g1 := keep (hg.out.more (f := ⟨fnm, fsf, fbs⟩) ba1.out hhe.out rfl hO1.out hG1.out)
          rw [← hst.out] at g1
          go_wp2
          go_roundw
          case rel => exact ⟨t + 1, es' ++ [(⟨fnm, (fsf : Int), p, k, fbs⟩ : Ent)], by omega, by first | rfl | go_num, .inl ⟨rfl, hle2, g1⟩⟩
          case measure => simp [intOf]; omega
        | false =>
          have hop : Op.bytesLess fnm gn = false := (op_less _ _).trans hcmp
          have hex2 : Hid (∃ g ∈ fs.take (t + 1), less g.name gn = false) := ⟨⟨fnm, fsf, fbs⟩, by rw [hst.out]; simp, hcmp⟩
          have hput := keep (Dk.put_snoc_ge (f := ⟨gn, gs, gb⟩) (k := ⟨fnm, fsf, fbs⟩) hle.out hcmp)
          by_cases hn2 : fnm = gn
          · have e2 : (fnm == gn) = true := by simpa using hn2
            rw [if_pos hn2, List.append_nil, ← hst.out] at hput
            clear hcmp hn2
            go_wp2_with fail
            go_quiet (fail)
            obtain ⟨wS, hwS⟩ : ∃ ws, ws = wr.drewN nq := ⟨_, rfl⟩
            rw [← hwS]
            have ewS := keep (show Below wr.heap.size wr wS by rw [hwS]; exact below_drewN _ _ _)
            have bS := keep (hk.out.trans (ewS.out.mono hk.out.size))
            clear hwS nq
            clear cr k0 k1 k2 hc0 hc1 hc2
            obtain ⟨cr, k0, k1, k2, hc0, hc1, hc2⟩ := FACTS.out wS bS.out
            have ba1 := keep ((ewS.out).alloc (ewS.out).size (.cells #[.string ⟨gn.toArray⟩, .int .i64 (gs : Int), .slice gp gb.length gk] 71))
            have ow1 := keep (own_block (w' := wS.alloc (.cells #[.string ⟨gn.toArray⟩, .int .i64 (gs : Int), .slice gp gb.length gk] 71)) hg.out.own (fun gg hgg => ba1.out.block gg (own_size hg.out.own hgg)))
            have sz1 := keep (show W0.heap.size ≤ (wS.alloc (.cells #[.string ⟨gn.toArray⟩, .int .i64 (gs : Int), .slice gp gb.length gk] 71)).heap.size from Nat.le_trans hg.out.bel.size ba1.out.size)
            go_wp2_with (at_builtin; refine wpList_append_rec fileKind_ok rfl _ _ 22 71 rfl W0.heap.size i0 _ 48 Try.underlying22 hi hz0 hz1 hz2 rfl u4 _ es' rfl ow1.out _ 1 (⟨gn, (gs : Int), gp, gk, gb⟩ : Ent) rfl (rec_cells (k := fileKind) _ _ (⟨gn, (gs : Int), gp, gk, gb⟩ : Ent)) (by unfold maxLen; omega) (by omega) sz1.out ?_; intro v5 w5 ho hg; have hO1 := keep ho; have hG1 := keep hg; clear ho hg)
            have g1 := keep (hg.out.more (f := ⟨gn, gs, gb⟩) ba1.out HHE.out rfl hO1.out hG1.out)
            have b5 := keep g1.out.bel
            clear cr k0 k1 k2 hc0 hc1 hc2
            obtain ⟨cr, k0, k1, k2, hc0, hc1, hc2⟩ := FACTS.out w5 b5.out
            go_wp2_with fail
            go_quiet (fail)
            obtain ⟨wT, hwT⟩ : ∃ ws, ws = w5.drewN nq := ⟨_, rfl⟩
            rw [← hwT]
            have ewT := keep (show Below w5.heap.size w5 wT by rw [hwT]; exact below_drewN _ _ _)
            have bT := keep (b5.out.trans (ewT.out.mono b5.out.size))
            clear hwT nq
            clear cr k0 k1 k2 hc0 hc1 hc2
            obtain ⟨cr, k0, k1, k2, hc0, hc1, hc2⟩ := FACTS.out wT bT.out
            have g2 : Hid (Begun U W0 wT v5 (Dk.put (fs.take (t + 1)) ⟨gn, gs, gb⟩) (es' ++ [(⟨gn, (gs : Int), gp, gk, gb⟩ : Ent)])) := by
              show Begun U W0 wT v5 (Dk.put (fs.take (t + 1)) ⟨gn, gs, gb⟩) (es' ++ [(⟨gn, (gs : Int), gp, gk, gb⟩ : Ent)])
              rw [hput.out]
              exact ⟨own_block g1.out.own (fun gg hgg => ewT.out.block gg (own_size g1.out.own hgg)), g1.out.held, g1.out.same, bT.out⟩
            go_wp2
            go_roundw
            case rel => exact ⟨t + 1, es' ++ [(⟨gn, (gs : Int), gp, gk, gb⟩ : Ent)], by omega, by first | rfl | go_num, .inr ⟨rfl, hex2, g2⟩⟩
            case measure => simp [intOf]; omega
          · have e2 : (fnm == gn) = false := by simpa using hn2
            rw [if_neg hn2, ← hst.out] at hput
            clear hcmp hn2
            go_wp2_with fail
            go_quiet (fail)
            obtain ⟨wS, hwS⟩ : ∃ ws, ws = wr.drewN nq := ⟨_, rfl⟩
            rw [← hwS]
            have ewS := keep (show Below wr.heap.size wr wS by rw [hwS]; exact below_drewN _ _ _)
            have bS := keep (hk.out.trans (ewS.out.mono hk.out.size))
            clear hwS nq
            clear cr k0 k1 k2 hc0 hc1 hc2
            obtain ⟨cr, k0, k1, k2, hc0, hc1, hc2⟩ := FACTS.out wS bS.out
            have ba1 := keep ((ewS.out).alloc (ewS.out).size (.cells #[.string ⟨gn.toArray⟩, .int .i64 (gs : Int), .slice gp gb.length gk] 71))
            have ow1 := keep (own_block (w' := wS.alloc (.cells #[.string ⟨gn.toArray⟩, .int .i64 (gs : Int), .slice gp gb.length gk] 71)) hg.out.own (fun gg hgg => ba1.out.block gg (own_size hg.out.own hgg)))
            have sz1 := keep (show W0.heap.size ≤ (wS.alloc (.cells #[.string ⟨gn.toArray⟩, .int .i64 (gs : Int), .slice gp gb.length gk] 71)).heap.size from Nat.le_trans hg.out.bel.size ba1.out.size)
            go_wp2_with (at_builtin; refine wpList_append_rec fileKind_ok rfl _ _ 22 71 rfl W0.heap.size i0 _ 48 Try.underlying22 hi hz0 hz1 hz2 rfl u4 _ es' rfl ow1.out _ 1 (⟨gn, (gs : Int), gp, gk, gb⟩ : Ent) rfl (rec_cells (k := fileKind) _ _ (⟨gn, (gs : Int), gp, gk, gb⟩ : Ent)) (by unfold maxLen; omega) (by omega) sz1.out ?_; intro v5 w5 ho hg; have hO1 := keep ho; have hG1 := keep hg; clear ho hg)
            have g1 := keep (hg.out.more (f := ⟨gn, gs, gb⟩) ba1.out HHE.out rfl hO1.out hG1.out)
            have b5 := keep g1.out.bel
            clear cr k0 k1 k2 hc0 hc1 hc2
            obtain ⟨cr, k0, k1, k2, hc0, hc1, hc2⟩ := FACTS.out w5 b5.out
            go_wp2_with fail
            go_quiet (fail)
            obtain ⟨wT, hwT⟩ : ∃ ws, ws = w5.drewN nq := ⟨_, rfl⟩
            rw [← hwT]
            have ewT := keep (show Below w5.heap.size w5 wT by rw [hwT]; exact below_drewN _ _ _)
            have bT := keep (b5.out.trans (ewT.out.mono b5.out.size))
            clear hwT nq
            clear cr k0 k1 k2 hc0 hc1 hc2
            obtain ⟨cr, k0, k1, k2, hc0, hc1, hc2⟩ := FACTS.out wT bT.out
            have hl3 : (fs.take t ++ [(⟨gn, gs, gb⟩ : File)]).length ≤ 1099511627777 := by rw [List.length_append]; have := hln.out; simp; omega
            have ba2 := keep ((ewT.out).alloc (ewT.out).size (.cells #[.string ⟨fnm.toArray⟩, .int .i64 (fsf : Int), .slice p fbs.length k] 71))
            have ow2 := keep (own_block (w' := wT.alloc (.cells #[.string ⟨fnm.toArray⟩, .int .i64 (fsf : Int), .slice p fbs.length k] 71)) g1.out.own (fun gg hgg => ba2.out.block gg (own_size g1.out.own hgg)))
            have sz2 := keep (show W0.heap.size ≤ (wT.alloc (.cells #[.string ⟨fnm.toArray⟩, .int .i64 (fsf : Int), .slice p fbs.length k] 71)).heap.size from Nat.le_trans g1.out.bel.size ba2.out.size)
            go_wp2_with (at_builtin; refine wpList_append_rec fileKind_ok rfl _ _ 22 71 rfl W0.heap.size i0 _ 48 Try.underlying22 hi hz0 hz1 hz2 rfl v5 _ (es' ++ [(⟨gn, (gs : Int), gp, gk, gb⟩ : Ent)]) rfl ow2.out _ 1 (⟨fnm, (fsf : Int), p, k, fbs⟩ : Ent) rfl (rec_cells (k := fileKind) _ _ (⟨fnm, (fsf : Int), p, k, fbs⟩ : Ent)) (by unfold maxLen; omega) (by omega) sz2.out ?_; intro v6 w6 ho hg; have hO2 := keep ho; have hG2 := keep hg; clear ho hg)
            have g2 := keep (g1.out.more (f := ⟨fnm, fsf, fbs⟩) ba2.out hhe.out rfl hO2.out hG2.out)
            rw [← hput.out] at g2
            go_wp2
            go_roundw
            case rel => exact ⟨t + 1, es' ++ [(⟨gn, (gs : Int), gp, gk, gb⟩ : Ent)] ++ [(⟨fnm, (fsf : Int), p, k, fbs⟩ : Ent)], by omega, by first | rfl | go_num, .inr ⟨rfl, hex2, g2⟩⟩
            case measure => simp [intOf]; omega
      · have hpd := Dk.put_snoc_done (f := ⟨gn, gs, gb⟩) hri.out hex.out
        have e2 : (fnm == gn) = false := by simpa using hpd.2
        have hput := keep hpd.1
        have hex2 : Hid (∃ g ∈ fs.take (t + 1), less g.name gn = false) := by
          obtain ⟨g, h1, h2⟩ := hex.out
          exact ⟨g, by rw [hst.out]; simp [h1], h2⟩
        clear hpd
        go_wp2_with fail
        go_quiet (fail)
        obtain ⟨wS, hwS⟩ : ∃ ws, ws = wr.drewN nq := ⟨_, rfl⟩
        rw [← hwS]
        have ewS := keep (show Below wr.heap.size wr wS by rw [hwS]; exact below_drewN _ _ _)
        have bS := keep (hk.out.trans (ewS.out.mono hk.out.size))
        clear hwS nq
        clear cr k0 k1 k2 hc0 hc1 hc2
        obtain ⟨cr, k0, k1, k2, hc0, hc1, hc2⟩ := FACTS.out wS bS.out
        go_wp2_with fail
        go_quiet (fail)
        obtain ⟨wT, hwT⟩ : ∃ ws, ws = wS.drewN nq := ⟨_, rfl⟩
        rw [← hwT]
        have ewT := keep (show Below wS.heap.size wS wT by rw [hwT]; exact below_drewN _ _ _)
        have bT := keep (bS.out.trans (ewT.out.mono bS.out.size))
        clear hwT nq
        clear cr k0 k1 k2 hc0 hc1 hc2
        obtain ⟨cr, k0, k1, k2, hc0, hc1, hc2⟩ := FACTS.out wT bT.out
        have ba1 := keep (((ewS.out.trans (ewT.out.mono ewS.out.size))).alloc ((ewS.out.trans (ewT.out.mono ewS.out.size))).size (.cells #[.string ⟨fnm.toArray⟩, .int .i64 (fsf : Int), .slice p fbs.length k] 71))
        have ow1 := keep (own_block (w' := wT.alloc (.cells #[.string ⟨fnm.toArray⟩, .int .i64 (fsf : Int), .slice p fbs.length k] 71)) hg.out.own (fun gg hgg => ba1.out.block gg (own_size hg.out.own hgg)))
        have sz1 := keep (show W0.heap.size ≤ (wT.alloc (.cells #[.string ⟨fnm.toArray⟩, .int .i64 (fsf : Int), .slice p fbs.length k] 71)).heap.size from Nat.le_trans hg.out.bel.size ba1.out.size)
        go_wp2_with (at_builtin; refine wpList_append_rec fileKind_ok rfl _ _ 22 71 rfl W0.heap.size i0 _ 48 Try.underlying22 hi hz0 hz1 hz2 rfl u4 _ es' rfl ow1.out _ 1 (⟨fnm, (fsf : Int), p, k, fbs⟩ : Ent) rfl (rec_cells (k := fileKind) _ _ (⟨fnm, (fsf : Int), p, k, fbs⟩ : Ent)) (by unfold maxLen; omega) (by omega) sz1.out ?_; intro v5 w5 ho hg; have hO1 := keep ho; have hG1 := keep hg; clear ho hg)
        have g1 := keep (hg.out.more (f := ⟨fnm, fsf, fbs⟩) ba1.out hhe.out rfl hO1.out hG1.out)
        rw [← hput.out, ← hst.out] at g1
        go_wp2
        go_roundw
        case rel => exact ⟨t + 1, es' ++ [(⟨fnm, (fsf : Int), p, k, fbs⟩ : Ent)], by omega, by first | rfl | go_num, .inr ⟨rfl, hex2, g1⟩⟩
        case measure => simp [intOf]; omega
    · obtain rfl : t = n := by omega
      have htk : fs.take t = fs := List.take_of_length_le (by have := HLEN.out; omega)
      have hln : fs.length ≤ 1099511627776 := by have := HLEN.out; omega
      rw [htk] at hcase
      clear htk
      have cr := below_cell (HB0.out.trans (hk.out.mono HB0.out.size)) c1
      have k0 := below_cell hk.out (cell_of_row _ _ _ _ _ _ G0.out : W0.cell? ⟨w.heap.size, 0, none⟩ = some (.string ⟨gn.toArray⟩))
      have k1 := below_cell hk.out (cell_of_row _ _ _ _ _ _ G0.out : W0.cell? ⟨w.heap.size, 1, none⟩ = some (.int .i64 (gs : Int)))
      have k2 := below_cell hk.out (cell_of_row _ _ _ _ _ _ G0.out : W0.cell? ⟨w.heap.size, 2, none⟩ = some (.slice gp gb.length gk))
      rcases hcase with ⟨rfl, hle, hg⟩ | ⟨rfl, hex, hg⟩
      · have hput := keep (Dk.put_less (f := ⟨gn, gs, gb⟩) hle.out)
        have ba1 := keep ((Below.refl wr.heap.size wr).alloc (Nat.le_refl _) (.cells #[.string ⟨gn.toArray⟩, .int .i64 (gs : Int), .slice gp gb.length gk] 71))
        have ow1 := keep (own_block (w' := wr.alloc (.cells #[.string ⟨gn.toArray⟩, .int .i64 (gs : Int), .slice gp gb.length gk] 71)) hg.out.own (fun gg hgg => ba1.out.block gg (own_size hg.out.own hgg)))
        have sz1 := keep (show W0.heap.size ≤ (wr.alloc (.cells #[.string ⟨gn.toArray⟩, .int .i64 (gs : Int), .slice gp gb.length gk] 71)).heap.size from Nat.le_trans hg.out.bel.size ba1.out.size)
        have FIN : Hid (∀ v5 w5, w5.ownsRow W0.heap.size 71 3 v5 (fs.length + 1) (rv fileKind (es' ++ [(⟨gn, (gs : Int), gp, gk, gb⟩ : Ent)])) → (wr.alloc (.cells #[.string ⟨gn.toArray⟩, .int .i64 (gs : Int), .slice gp gb.length gk] 71)).grownBy w5 u4.ownBlock → Hid (Begun U W0 w5 v5 (Dk.put fs ⟨gn, gs, gb⟩) (es' ++ [(⟨gn, (gs : Int), gp, gk, gb⟩ : Ent)]))) := fun v5 w5 h1 h2 => by
          have g1 := hg.out.more (f := ⟨gn, gs, gb⟩) ba1.out HHE.out rfl h1 h2
          rw [← hput.out] at g1
          exact g1
        go_wp2_with (at_builtin; refine wpList_append_rec fileKind_ok rfl _ _ 22 71 rfl W0.heap.size i0 _ 48 Try.underlying22 hi hz0 hz1 hz2 rfl u4 _ es' rfl ow1.out _ 1 (⟨gn, (gs : Int), gp, gk, gb⟩ : Ent) rfl (rec_cells (k := fileKind) _ _ (⟨gn, (gs : Int), gp, gk, gb⟩ : Ent)) (by unfold maxLen; omega) (by omega) sz1.out ?_; intro v5 w5 ho hgr; obtain ⟨ao5, c5, rfl⟩ := own_slice ho; have gF := FIN.out _ _ ho hgr; have hrb := keep (HB.out.same (w' := w5) ((HB0.out.trans (gF.out.bel.mono HB0.out.size)).block q HB.out.lt)); have f0 := hrb.out.warm; have cq := hrb.out.c1; clear ho hgr)
        go_end0
        obtain ⟨ao', c', e, hrows⟩ := gF.out.rows (fun g hg => Nat.lt_of_lt_of_le (hU g hg) HB0.out.size) (w' := w5.setCell ⟨q, 1, none⟩ (.slice ao5 (fs.length + 1) c5)) ((Kept.refl _ _).setCell (p := ⟨q, 1, none⟩) (.inl hq) _)
        rw [hput.out, List.length_append] at hrows ⊢
        rw [hput.out, List.length_append] at e
        cases e
        exact ⟨rfl, ⟨_, _, _, hrb.out.set1 _, hrows⟩, (Kept.of_below (HB0.out.trans (gF.out.bel.mono HB0.out.size))).at_set _ _⟩
      · have gF := hg
        clear hg cr
        have hrb := HB.out.same (w' := wr) ((HB0.out.trans (gF.out.bel.mono HB0.out.size)).block q HB.out.lt)
        have f0 := hrb.warm
        have cq := hrb.c1
        have HRB := keep hrb
        clear hrb
        obtain ⟨ao1, c2, rfl⟩ := own_slice gF.out.own
        go_wp2
        go_end0
        obtain ⟨ao', c', e, hrows⟩ := gF.out.rows (fun g hg => Nat.lt_of_lt_of_le (hU g hg) HB0.out.size) (w' := wr.setCell ⟨q, 1, none⟩ (.slice ao1 (Dk.put fs ⟨gn, gs, gb⟩).length c2)) ((Kept.refl _ _).setCell (p := ⟨q, 1, none⟩) (.inl hq) _)
        cases e
        exact ⟨rfl, ⟨_, _, _, HRB.out.set1 _, hrows⟩, (Kept.of_below (HB0.out.trans (gF.out.bel.mono HB0.out.size))).at_set _ _⟩
end Go.Proofs.Ytfjhfecjbheipaa
