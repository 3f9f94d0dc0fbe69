/- append behind a guard; no walk. -/
/- The walk of disk's Dump. -/
import Derived.Test.YthnebhddakfadaaGreatDoorJoinMe
import Derived.Deep.QuietTactic
import Derived.BigQuiet
import Derived.WalkSmall
import Derived.Test.YthnebhddakfadaaGreatDoorJoinOi
namespace Go.Proofs.YthnebhddakfadaaGreatDoor
open Go.RowKit

end Go.Proofs.YthnebhddakfadaaGreatDoor
namespace Go.Proofs.YthnebhddakfadaaGreatDoor
open Go.RowKit
open Dk (File Disk)

theorem infoF : (Tryz.prog.info? 70).map (fun i => (i.zero, i.size, i.bytes)) = some (some (.agg #[.string ⟨#[]⟩, .int .i64 0, .slice none 0 0]), 3, 48) := by kernel_rfl
theorem info_parts3 {P : Program} {t : TypeId} {z : Value} {s b : Nat} (h : (P.info? t).map (fun i => (i.zero, i.size, i.bytes)) = some (some z, s, b)) : ∃ i, P.info? t = some i ∧ i.zero = some z ∧ i.size = s ∧ i.bytes = b := by
  cases hi : P.info? t with
  | none => rw [hi] at h; cases h
  | some i =>
    rw [hi] at h
    simp only [Option.map_some, Option.some.injEq, Prod.mk.injEq] at h
    exact ⟨i, rfl, h.1, h.2.1, h.2.2⟩

/-- append(v, f) as a step of a region that draws, v nil or the call's own row of records, f laid as a row of its own. -/
theorem step_append_rec {α : Type} {k : Kind α} (K : k.Ok) {P : Program} {w : World} {ops : Array Oper} {o : Oper} {a : Act} {C : Act → World → Prop} {Q : Exit → Act → World → Prop} {E : Prop} (hgd : o.guard = none) (s x : Operand) (t tF : TypeId)
    (ho : o.op = .call { callee := .builtin .append, args := #[s, x], argTypes := #[t, t] })
    (base : Nat) (i : TypeInfo) (z : Value) (bytes : Nat) (ht : P.underlying t = some (.slice tF)) (hi : P.info? tF = some i) (hz : i.zero = some z)
    (hsize : i.size = k.size) (hby : i.bytes = bytes) (hzs : z.cells.size = k.size)
    (v : Value) (n : Nat) (es : List α) (hs : a.eval s = v) (hown : w.ownsRow base tF k.size v n (rv k es))
    (ad : Addr) (c : Nat) (e : α) (hx : a.eval x = .slice (some ad) 1 c) (hcells : ∀ j u, (k.vals e)[j]? = some u → w.cell? (ad.add j) = some u)
    (hb : n + 1 ≤ maxLen) (hbytes : (n + 1) * bytes ≤ 140737488355328) (hbase : base ≤ w.heap.size)
    (h : ∀ v' w', w'.ownsRow base tF k.size v' (n + 1) (rv k (es ++ [e])) → w.grownBy w' v.ownBlock → C (a.put o.dst v') w') : if Region.wanted o (yielded ops a.tmps) = true then Oper.wp P o a w C Q else E := by
  have hw : Region.wanted o (yielded ops a.tmps) = true := by simp [Region.wanted, hgd]
  rw [if_pos hw]
  obtain ⟨v', w', hrun, h1, h2, _⟩ := run_append_own (P := P) w base t o.type tF i z k.size bytes ht hi hz hsize hby hzs K.pos v n (rv k es) hown ad 1 c (k.vals e) (by rw [K.len, Nat.one_mul]) hcells (K.one e) hb hbytes hbase
  unfold Oper.wp
  simp [execOp, ho, resolve, invoke, builtin, hs, hx, hrun, Result.andThen]
  refine h v' w' ?_ h2
  rw [rv_append]
  simpa [rv] using h1

theorem own_tag {w : World} {B t k n : Nat} {v : Value} {xs : List Value} (h : w.ownsRow B t k v n xs) {g : Nat} (hg : v.ownBlock = some g) : ∃ cur, w.heap[g]? = some (.cells cur t (0, 0)) := by
  rcases h.2 with ⟨rfl, _⟩ | ⟨g', cap, cur, rfl, _, hh, _⟩
  · cases hg
  · cases hg
    exact ⟨cur, hh⟩
/-- The bytes of a file lie in a row of their own. -/
def Bytes' (B : Nat) (w : World) (e : Ent) : Prop := w.ownsRow B 5 1 (.slice e.ptr e.bytes.length e.cap) e.bytes.length (bv e.bytes)
theorem Bytes'.same {B : Nat} {w w' : World} {e : Ent} (h : Bytes' B w e) (hb : ∀ g, g < w.heap.size → (∃ cur, w.heap[g]? = some (.cells cur 5 (0, 0))) → w'.heap[g]? = w.heap[g]?) : Bytes' B w' e := own_block h (fun g hg => hb g (own_size h hg) (own_tag h hg))
theorem Bytes'.steady {B : Nat} {w : World} {e : Ent} (h : Bytes' B w e) : Steady (Old B) w fun w => fileKind.held w e := by
  obtain ⟨ao, c, hv, _, hs⟩ := Src.old_steady h
  cases hv
  exact hs
/-- One file more behind a row of files. -/
theorem row_more {B tF : Nat} {wr W4 w5 : World} {u3 : Value} {t : Nat} {es : List Ent} {e : Ent} (hne : ¬ tF = 5) (hv : wr.ownsRow B tF 3 u3 t (rv fileKind es)) (hh : ∀ e ∈ es, Bytes' B wr e) (hb : Below wr.heap.size wr W4) (he : Bytes' B W4 e) (hg : W4.grownBy w5 u3.ownBlock) : ∀ e' ∈ es ++ [e], Bytes' B w5 e' := by
  have hne : ∀ g cur, W4.heap[g]? = some (.cells cur 5 (0, 0)) → some g ≠ u3.ownBlock := fun g cur h1 h2 => by
    obtain ⟨cur2, h3⟩ := own_tag hv h2.symm
    have hlt : g < wr.heap.size := (Array.getElem?_eq_some_iff.1 h3).1
    rw [hb.block g hlt, h3] at h1
    simp only [Option.some.injEq, Obj.cells.injEq] at h1
    exact hne h1.2.1
  intro e' he'
  rcases List.mem_append.1 he' with h1 | h1
  · have h2 : Bytes' B W4 e' := (hh e' h1).same (fun g hlt _ => hb.block g hlt)
    exact h2.same (fun g hlt ⟨cur, hc⟩ => hg.block g hlt (hne g cur hc))
  · rw [List.mem_singleton] at h1
    subst h1
    exact he.same (fun g hlt ⟨cur, hc⟩ => hg.block g hlt (hne g cur hc))

set_option maxHeartbeats 1000000 in
set_option maxRecDepth 100000 in
theorem dump_mem (S : Nat → Prop) (b : Nat) (d : Disk) (w : World) (h : Mem S w b d) :
    Calls Tryz.prog 15 #[.pointer (some ⟨b, 0, none⟩)] w fun e w' => ∃ ao c es, e = .returned (.slice ao d.files.length c) ∧ c ≤ maxLen ∧ Steady (Old w.heap.size) w' (fun w => RSrc fileKind w ao d.files.length c es) ∧ es.map plainE = d.files.map plainF ∧ Below w.heap.size w w' := by
  obtain ⟨m, l, left, h⟩ := h
  have HM := keep h
  have c0 := h.box.c0
  obtain ⟨N, hN⟩ : ∃ N, d.files.length = N := ⟨_, rfl⟩
  have hNs : N ≤ 1099511627776 := by
    have h1 := HM.out.few.2
    have h2 := HM.out.rel.length
    omega
  have hnm := keep (names_mem S b m l left d w h)
  rw [hN] at hnm ⊢
  have HN := keep hN
  obtain ⟨i0, hi, hz0, hz1, hz2⟩ := info_parts3 infoF
  clear h hN
  go_enter Tryz.func15, Tryz.ntmps15
  go_wp2_with fail
  refine hnm.out.mono ?_
  rintro e w1 ⟨ao, c, rfl, ho, hr, hb⟩
  have HO := keep ho
  have HR := keep hr
  have HB := keep hb
  clear ho hr hb c0 hnm
  go_wp2_with fail
  have hst := keep (own_steady (U := Old w.heap.size) HO.out (fun g hg => hg))
  clear HR
  go_loopw [3, 10] (fun v i wr => ∃ (t : Nat) (es : List Ent), t ≤ N ∧ i = .int .i64 (t : Int) ∧ Hid (wr.ownsRow w1.heap.size 70 3 v t (rv fileKind es)) ∧ Hid (∀ e ∈ es, Bytes' w1.heap.size wr e) ∧ Hid (es.map plainE = (d.files.take t).map plainF) ∧ Hid (Below w1.heap.size w1 wr)) (fun _ i _ => N - (intOf i).toNat)
  case atStart => exact ⟨0, [], Nat.zero_le _, rfl, World.ownsRow_nil _ _ _ _, (fun e he => by cases he), rfl, Below.refl _ _⟩
  case round =>
    obtain ⟨t, es, ht, rfl, hv, hh, hp, hk⟩ := hrel
    have hbw : Hid (Below w.heap.size w wr) := HB.out.trans (hk.out.mono HB.out.size)
    rcases Nat.lt_or_ge t N with hlt | hge
    · obtain ⟨f, hf⟩ : ∃ f, d.files[t]? = some f := ⟨d.files[t]'(by rw [HN.out]; exact hlt), List.getElem?_eq_getElem _⟩
      have hnames : RSrc strKind wr ao N c (d.files.map (·.name)) := by
        obtain ⟨ao', c', e, hr, _⟩ := RSrc.own strKind_ok (hst.out wr (Kept.of_below hk.out)) (fun _ _ => trivial)
        cases e
        exact hr
      obtain ⟨bb, off2, rfl, hbl, hat⟩ := strs_at hnames (by omega)
      have hcell : wr.cell? ⟨bb, off2 + t, none⟩ = some (.string ⟨f.name.toArray⟩) := hat t f.name (by rw [List.getElem?_map, hf]; rfl)
      clear hat hnames
      have hmem := List.mem_of_getElem? hf
      have hnl : f.name.length ≤ maxLen := by
        have := (named_true (HM.out.good.names f hmem)).2.1
        unfold maxLen
        omega
      have hfl : f.bytes.length ≤ 1099511627776 := by
        have h1 := used_mem hmem
        have h2 := HM.out.good.room
        have h3 := HM.out.capb
        simp only [Dk.cost] at h1
        omega
      have hmr := HM.out.below hbw.out
      have c0r := hmr.box.c0
      obtain ⟨ao1, c1, hl, _, hs, _⟩ := look1_there hmr.map hmr.rel hnl (Dk.look_mem hmr.good.rising hmem)
      have HL := keep hl
      have HS1 := keep hs
      have hpt := keep (show (d.files.take (t + 1)).map plainF = (d.files.take t).map plainF ++ [plainF f] by rw [List.take_add_one, hf]; simp)
      obtain ⟨nm, sf, fb⟩ := f
      clear hmr hl hs hmem hf
      have i1 : (t : Int) < (N : Int) := by omega
      have i0' : (0 : Int) ≤ (t : Int) := by omega
      obtain ⟨wA, hwA⟩ : ∃ wA, wr.alloc (.cells #[.int .i64 (sf : Int), .slice ao1 fb.length c1] 95) = wA := ⟨_, rfl⟩
      have bA : Below wr.heap.size wr wA := by rw [← hwA]; exact (Below.refl _ _).alloc (Nat.le_refl _) _
      have kf1 : wA.cell? ⟨wr.heap.size, 1, none⟩ = some (.slice ao1 fb.length c1) := by rw [← hwA]; exact cell_of_row _ _ _ _ _ _ (heap_alloc_new wr _)
      have kf0 : wA.cell? ⟨wr.heap.size, 0, none⟩ = some (.int .i64 (sf : Int)) := by rw [← hwA]; exact cell_of_row _ _ _ _ _ _ (heap_alloc_new wr _)
      have HBA := keep bA
      have HSA := keep (HS1.out.below (bA.trans (Below.refl _ _).drew))
      clear bA
      go_wp2_with (first | (at_lookup; refine wpList_look rfl _ _ _ _ rfl _ _ _ rfl rfl HL.out ?_) | fail)
      clear hwA
      have KEY : Hid (∀ v4 w4, New wA.drew w4 v4 fb.length fb → ∃ ao4 c4, v4 = .slice ao4 fb.length c4 ∧ w4.cell? ⟨wr.heap.size, 0, none⟩ = some (.int .i64 (sf : Int)) ∧ w4.cell? ⟨wr.heap.size, 1, none⟩ = some (.slice ao1 fb.length c1) ∧
          Hid (Below wr.heap.size wr (w4.alloc (.cells #[.string ⟨nm.toArray⟩, .int .i64 (sf : Int), .slice ao4 fb.length c4] 70))) ∧ Hid (Bytes' w1.heap.size (w4.alloc (.cells #[.string ⟨nm.toArray⟩, .int .i64 (sf : Int), .slice ao4 fb.length c4] 70)) ⟨nm, (sf : Int), ao4, c4, fb⟩) ∧
          Hid ((w4.alloc (.cells #[.string ⟨nm.toArray⟩, .int .i64 (sf : Int), .slice ao4 fb.length c4] 70)).ownsRow w1.heap.size 70 3 u3 t (rv fileKind es)) ∧ Hid (w1.heap.size ≤ (w4.alloc (.cells #[.string ⟨nm.toArray⟩, .int .i64 (sf : Int), .slice ao4 fb.length c4] 70)).heap.size)) := by
        intro v4 w4 hn4
        obtain ⟨ao4, c4, rfl, _, _⟩ := hn4.src
        have hlt : wr.heap.size < wA.heap.size := World.block_lt_of_cell? wA _ kf1
        have b4 : Below wA.heap.size wA w4 := (Below.refl _ _).drew.trans hn4.2
        have b5 : Below wr.heap.size wr w4 := HBA.out.trans (b4.mono HBA.out.size)
        have b6 : Below wr.heap.size wr (w4.alloc (.cells #[.string ⟨nm.toArray⟩, .int .i64 (sf : Int), .slice ao4 fb.length c4] 70)) := b5.alloc b5.size _
        refine ⟨ao4, c4, rfl, below_cell b4 kf0, below_cell b4 kf1, b6, ?_, ?_, ?_⟩
        · have h1 : w4.ownsRow w1.heap.size 5 1 (.slice ao4 fb.length c4) fb.length (bv fb) := own_base hn4.1 (fun g hg => Nat.le_trans hk.out.size (Nat.le_trans HBA.out.size (hn4.1.lt g hg).1))
          exact own_block h1 (fun g hg => Below.heap_alloc _ _ g (own_size h1 hg))
        · exact own_block hv.out (fun g hg => b6.block g (own_size hv.out hg))
        · exact Nat.le_trans hk.out.size b6.size
      have hnb : some wr.heap.size ≠ u3.ownBlock := fun e => by have := own_size hv.out e.symm; omega
      go_region_held3 (fun w' => w'.cell? ⟨wr.heap.size, 0, none⟩ = some (.int .i64 (sf : Int)) ∧ w'.cell? ⟨wr.heap.size, 1, none⟩ = some (.slice ao1 fb.length c1)) (first | go_keep | exact ⟨q0, q1⟩ | exact ⟨qa0 _, qa1 _⟩ | exact ⟨r0, r1⟩)
        (first
          | (go_at_call 43; refine (clone_any ao1 fb.length c1 fb _ (by omega) HSA.out).mono ?_; rintro e w4 ⟨v4, rfl, hn4⟩; obtain ⟨ao4, c4, rfl, q0, q1, q2, q3, q4, q5⟩ := KEY.out v4 w4 hn4; have qa0 := fun o : Obj => below_cell ((Below.refl _ _).alloc (Nat.le_refl _) o) q0; have qa1 := fun o : Obj => below_cell ((Below.refl _ _).alloc (Nat.le_refl _) o) q1; clear hn4)
          | (refine step_append_rec fileKind_ok (by rfl) _ _ 44 70 (by rfl) w1.heap.size i0 _ 48 Tryz.underlying44 hi hz0 hz1 hz2 (by rfl) u3 t es (by rfl) q4.out _ 1 (⟨nm, (sf : Int), ao4, c4, fb⟩ : Ent) (by rfl) (rec_cells (k := fileKind) _ _ (⟨nm, (sf : Int), ao4, c4, fb⟩ : Ent)) (by unfold maxLen; omega) (by omega) q5.out ?_; intro v5 w5 ho5 hg5; have r0 := hg5.cell (qa0 _) hnb; have r1 := hg5.cell (qa1 _) hnb; have ho6 := keep ho5; have hg6 := keep hg5; clear ho5 hg5))
      have hfin := keep (row_more (by decide) hv.out hh.out q2.out q3.out hg6.out)
      have hb6 := keep (show Below w1.heap.size w1 w5 from (hk.out.trans (q2.out.mono hk.out.size)).grown hg6.out q5.out (fun g hg => (hv.out.lt g hg).1))
      have hp6 : Hid ((es ++ [(⟨nm, (sf : Int), ao4, c4, fb⟩ : Ent)]).map plainE = (d.files.take (t + 1)).map plainF) := by
        show _ = _
        rw [List.map_append, hp.out, hpt.out]
        rfl
      clear r0 r1 qa0 qa1 q0 q1
      go_wp2
      go_roundw
      case rel => exact ⟨t + 1, es ++ [(⟨nm, (sf : Int), ao4, c4, fb⟩ : Ent)], by omega, by first | rfl | go_num, ho6, hfin, hp6, hb6⟩
      case measure => simp [intOf]; omega
    · obtain rfl : t = N := by omega
      have hst2 := keep (files_steady (B := w.heap.size) (own_base hv.out (fun g hg => Nat.le_trans HB.out.size (hv.out.lt g hg).1)) (fun e he w' hk' => (hh.out e he).steady w' (hk'.wide (fun g _ h1 => Nat.lt_of_lt_of_le h1 HB.out.size))))
      obtain ⟨ao5, c5, rfl, hc5, hs5⟩ := hst2.out
      have HS5 := keep hs5
      clear hst2 hs5
      go_wp2
      go_ret
      exact ⟨ao5, c5, es, rfl, hc5, HS5.out, by rw [hp.out, List.take_of_length_le (by rw [HN.out]; exact Nat.le_refl _)], hbw.out⟩
end Go.Proofs.YthnebhddakfadaaGreatDoor
