/- The walk of the document's Crash. -/
import Derived.Test.YtfjhfecjbheipaaR9
import Derived.Test.YtfjhfecjbheipaaCx
namespace Go.Proofs.Ytfjhfecjbheipaa
open Go.RowKit
open Dk (File Disk)

theorem Src.cut {w : World} {ao : Option Addr} {m c k : Nat} {l : List UInt8} (h : Src w ao m c l) (hk : k ≤ m) : Src w ao k c (l.take k) :=
  ⟨by rw [List.length_take, h.len]; omega, Nat.le_trans hk h.cap, (fun e => ⟨by have := (h.nil e).1; omega, (h.nil e).2⟩), fun ad had j u hu => h.cells ad had j u (by
    rw [show bv (l.take k) = (bv l).take k by simp [bv, List.map_take]] at hu
    rw [List.getElem?_take] at hu
    split at hu
    · exact hu
    · cases hu)⟩
theorem keptAll_take {fs : List File} {ps : List Nat} {t : Nat} {f : File} (hf : fs[t]? = some f) : (Dk.keptAll fs ps).take (t + 1) = (Dk.keptAll fs ps).take t ++ [Dk.kept f (Dk.pick ps t)] := by
  rw [List.take_add_one, Dk.keptAll_at, hf]
  rfl

set_option maxHeartbeats 1000000 in
set_option maxRecDepth 100000 in
theorem rcrash_ref (F : Nat → Prop) (q : Nat) (r : Disk) (ao2 : Option Addr) (n2 c2 : Nat) (zs : List Int) (w : World) (h : Ref F w q r) (hz : RSrc intKind w ao2 n2 c2 zs) (hn2 : n2 ≤ maxLen) :
    Calls Try.prog 38 #[.pointer (some ⟨q, 0, none⟩), .slice ao2 n2 c2] w fun e w' => RefPost F w q (0, Dk.crash r (zs.map up)) e w' := by
  obtain ⟨ao, nn, c, es, h⟩ := h
  have HM := keep h
  have HZ := keep hz
  have c1 := h.box.c1
  have HLEN := keep h.rows.len
  have hnn := h.few
  obtain ⟨i0, hi, hz0, hz1, hz2⟩ := info_parts3 infoR
  obtain ⟨i00, hi0, hy0, hy1, hy2⟩ := info_parts info5
  clear h hz
  unfold maxLen at hn2
  go_enter Try.func38, Try.ntmps38
  go_wp2_with fail
  go_loopw [5, 6] (fun v i wr => ∃ (t : Nat) (es' : List Ent), t ≤ nn ∧ i = .int .i64 (t : Int) ∧ Hid (Fresh 71 w wr v ((Dk.keptAll r.files (zs.map up)).take t) es')) (fun _ i _ => nn - (intOf i).toNat)
  case atStart => exact ⟨0, [], Nat.zero_le _, rfl, Fresh.nil _ w w (Below.refl _ _)⟩
  case round =>
    obtain ⟨t, es', ht, rfl, hg⟩ := hrel
    have cr := below_cell hg.out.bel c1
    rcases Nat.lt_or_ge t nn with hlt | hge
    · obtain ⟨f, hf⟩ : ∃ f, r.files[t]? = some f := ⟨r.files[t]'(by have := HLEN.out; omega), List.getElem?_eq_getElem _⟩
      have Rr := keep (HM.out.below hg.out.bel)
      obtain ⟨b, off, hao, hbl, hat⟩ := Rr.out.rows.at_ (by omega)
      obtain ⟨p, k, hek, hc0, hc1, hc2⟩ := hat t f hf
      have hhe := keep ((Rr.out.rows.held (List.mem_of_getElem? hek)).here)
      rw [hao] at cr
      have j0 : (0 : Int) ≤ (t : Int) := by omega
      have j1 : (t : Int) < (nn : Int) := by omega
      have hst := keep (keptAll_take (ps := zs.map up) hf)
      rw [pick_up] at hst
      have hfl : f.bytes.length ≤ 1099511627776 := by
        have h1 := used_mem (List.mem_of_getElem? hf)
        have h2 := HM.out.good.room
        have h3 := HM.out.capb
        simp only [Dk.cost] at h1
        omega
      have hsf : f.safe ≤ f.bytes.length := HM.out.good.safes f (List.mem_of_getElem? hf)
      obtain ⟨fnm, fsf, fbs⟩ := f
      obtain ⟨u, hu⟩ : ∃ u, fbs.length = fsf + u := ⟨fbs.length - fsf, by have : fsf ≤ fbs.length := hsf; omega⟩
      have hln : ((Dk.keptAll r.files (zs.map up)).take t).length ≤ 1099511627776 := by rw [List.length_take]; omega
      have HU := keep hu
      rw [hu] at hc2 hfl
      have HHE : Hid (Src wr p (fsf + u) k fbs) := by have := hhe.out; simp only [fileKind, hu] at this; exact this
      have u0 : ¬ ((u : Int) + 1 = 0) := by omega
      have hzr := HZ.out.below intKind_ok (show Below w.heap.size w wr from hg.out.bel)
      have hzl := hzr.len
      obtain ⟨z, hzz⟩ : ∃ z, zs.getD t 0 = z := ⟨_, rfl⟩
      rw [hzz] at hst
      clear hat hf hek hao hu hsf hhe
      have hpn : Hid ((p = none ∧ fsf = 0 ∧ u = 0 ∧ k = 0 ∧ fbs = []) ∨ ∃ pad, p = some pad) := by
        cases p with
        | none =>
          obtain ⟨h1, h2⟩ := HHE.out.nil rfl
          exact .inl ⟨rfl, by omega, by omega, h2, List.length_eq_zero_iff.1 (by rw [HU.out]; omega)⟩
        | some ad => exact .inr ⟨ad, rfl⟩
      rcases Nat.lt_or_ge t n2 with hp | hp
      · obtain ⟨pb, po, rfl, hpl, hpat⟩ := ints_at hzr (by omega)
        have hzs : zs[t]? = some z := by
          have hh : t < zs.length := by omega
          rw [List.getElem?_eq_getElem hh, ← hzz]
          simp [List.getD, hh]
        have hpc : wr.cell? ⟨pb, po + t, none⟩ = some (.int .i64 z) := hpat t z hzs
        have p1 : (t : Int) < (n2 : Int) := by omega
        clear hpat hzr hzs hzz hzl
        have LB := (Below.refl wr.heap.size wr).alloc (Nat.le_refl _) (.cells #[.string ⟨fnm.toArray⟩, .int .i64 (fsf : Int), .slice p (fsf + u) k] 71)
        have lg := heap_alloc_new wr (.cells #[.string ⟨fnm.toArray⟩, .int .i64 (fsf : Int), .slice p (fsf + u) k] 71)
        go_wp2_with fail
        rw [up_wrap z]
        obtain ⟨kk, hk⟩ : ∃ kk, kk = fsf + up z % (u + 1) := ⟨_, rfl⟩
        have hku : kk ≤ fsf + u := by have := Nat.mod_lt (up z) (show 0 < u + 1 by omega); omega
        have hke := keep (keep_eq fsf u (up z) kk hk hfl)
        have hkk : Hid (Dk.kept ⟨fnm, fsf, fbs⟩ (up z) = ⟨fnm, kk, fbs.take kk⟩) := by
          show Dk.kept ⟨fnm, fsf, fbs⟩ (up z) = ⟨fnm, kk, fbs.take kk⟩
          have : fbs.length - fsf + 1 = u + 1 := by have := HU.out; omega
          simp only [Dk.kept, this, ← hk]
        have HL := keep LB
        have LG := keep lg
        clear hk LB lg
        go_region
        rw [hke.out]
        obtain ⟨wS, hwS⟩ : ∃ ws, ws = (wr.alloc (.cells #[.string ⟨fnm.toArray⟩, .int .i64 (fsf : Int), .slice p (fsf + u) k] 71)).drew := ⟨_, rfl⟩
        rw [← hwS]
        have eW := keep (show Below wr.heap.size wr wS by rw [hwS]; exact HL.out.trans (Below.refl _ _).drew)
        have m0 : wS.cell? ⟨wr.heap.size, 0, none⟩ = some (.string ⟨fnm.toArray⟩) := by rw [hwS]; exact (cell_of_row _ _ _ _ _ _ LG.out : (wr.alloc _).cell? ⟨wr.heap.size, 0, none⟩ = _)
        have m2 : wS.cell? ⟨wr.heap.size, 2, none⟩ = some (.slice p (fsf + u) k) := by rw [hwS]; exact (cell_of_row _ _ _ _ _ _ LG.out : (wr.alloc _).cell? ⟨wr.heap.size, 2, none⟩ = _)
        clear hwS cr hc0 hc1 hc2 hpc
        have htk : (fbs.take kk).length = kk := by rw [List.length_take]; have := HU.out; omega
        have hs0 : (0 : Int) ≤ (kk : Int) := by omega
        rcases hpn.out with ⟨rfl, n1, n2, rfl, e4⟩ | ⟨pad, rfl⟩
        · subst n1 n2 e4
          obtain rfl : kk = 0 := by omega
          have hkk0 : Hid (Dk.kept ⟨fnm, 0, []⟩ (up z) = ⟨fnm, 0, []⟩) := hkk.out
          have m2' : wS.cell? ⟨wr.heap.size, 2, none⟩ = some (.slice none 0 0) := m2
          have S0 : Src wS none 0 0 [] := Src.empty (fun _ => rfl)
          clear m2 hkk
          simp only [Nat.add_zero, Int.natCast_zero]
          have S3 : Hid (Src ((wS.alloc (.cells #[] 5)).drew) none 0 0 []) := S0.below (((Below.refl _ _).alloc (Nat.le_refl _) _).trans (Below.refl _ _).drew)
          have M3 : Hid (((wS.alloc (.cells #[] 5)).drew).ownsRow wS.heap.size 5 1 (.slice (some ⟨wS.heap.size, 0, none⟩) 0 0) 0 (bv [])) := World.ownsRow_made wS #[] 0 (Nat.le_refl _) (by unfold maxLen; omega) rfl
          have KEY : Hid (∀ v6 w6, w6.ownsRow wS.heap.size 5 1 v6 (0 + 0) (bv ([] ++ [])) → ((wS.alloc (.cells #[] 5)).drew).grownBy w6 (some wS.heap.size) → ∃ ao6 c6, v6 = .slice ao6 0 c6 ∧ (w6.cell? ⟨wr.heap.size, 0, none⟩ = some (.string ⟨fnm.toArray⟩) ∧ w6.cell? ⟨wr.heap.size, 2, none⟩ = some (.slice none 0 0)) ∧
              Hid (Below wr.heap.size wr (w6.alloc (.cells #[.string ⟨fnm.toArray⟩, .int .i64 0, .slice ao6 0 c6] 71))) ∧ Hid (Bytes' w.heap.size (w6.alloc (.cells #[.string ⟨fnm.toArray⟩, .int .i64 0, .slice ao6 0 c6] 71)) (⟨fnm, 0, ao6, c6, []⟩ : Ent)) ∧ Hid ((w6.alloc (.cells #[.string ⟨fnm.toArray⟩, .int .i64 0, .slice ao6 0 c6] 71)).ownsRow w.heap.size 71 3 u5 ((Dk.keptAll r.files (zs.map up)).take t).length (rv fileKind es')) ∧ Hid (w.heap.size ≤ (w6.alloc (.cells #[.string ⟨fnm.toArray⟩, .int .i64 0, .slice ao6 0 c6] 71)).heap.size)) := by
            intro v6 w6 h1 h2
            simp only [List.nil_append, Nat.add_zero] at h1
            obtain ⟨ao6, c6, rfl⟩ := own_slice h1
            have b6 : Below wS.heap.size wS w6 := (((Below.refl _ _).alloc (Nat.le_refl _) _).trans (Below.refl _ _).drew).grown h2 (by show wS.heap.size ≤ (wS.alloc _).heap.size; simp) (fun g e => by cases e; exact Nat.le_refl _)
            have b7 : Below wr.heap.size wr (w6.alloc (.cells #[.string ⟨fnm.toArray⟩, .int .i64 0, .slice ao6 0 c6] 71)) := (eW.out.trans (b6.mono eW.out.size)).alloc (Nat.le_trans eW.out.size b6.size) _
            refine ⟨ao6, c6, rfl, ⟨below_cell b6 m0, below_cell b6 m2'⟩, b7, ?_, own_block hg.out.own (fun g hgg => b7.block g (own_size hg.out.own hgg)), Nat.le_trans hg.out.bel.size b7.size⟩
            have h3 : w6.ownsRow w.heap.size 5 1 (.slice ao6 0 c6) 0 (bv []) := own_base h1 (fun g hgg => Nat.le_trans hg.out.bel.size (Nat.le_trans eW.out.size (h1.lt g hgg).1))
            have h4 : (w6.alloc (.cells #[.string ⟨fnm.toArray⟩, .int .i64 0, .slice ao6 0 c6] 71)).ownsRow w.heap.size 5 1 (.slice ao6 0 c6) 0 (bv []) := own_block h3 (fun g hgg => Below.heap_alloc _ _ g (own_size h3 hgg))
            show (w6.alloc (.cells #[.string ⟨fnm.toArray⟩, .int .i64 0, .slice ao6 0 c6] 71)).ownsRow w.heap.size 5 1 (.slice ao6 [].length c6) [].length (bv [])
            exact h4
          have hn3 : some wr.heap.size ≠ u5.ownBlock := fun e => by have := own_size hg.out.own e.symm; omega
          go_wp2_with fail
          go_region_held3 (fun w' => w'.cell? ⟨wr.heap.size, 0, none⟩ = some (.string ⟨fnm.toArray⟩) ∧ w'.cell? ⟨wr.heap.size, 2, none⟩ = some (.slice none 0 0))
            (first | go_keep | exact q0 | exact ⟨qa q0.1, qa q0.2⟩ | exact ⟨rr1 (qa q0.1), rr1 (qa q0.2)⟩)
            (first
              | (refine step_append_src (by rfl) _ _ 35 (by rfl) wS.heap.size i00 _ Try.underlying35 hi0 hy0 hy1 hy2 (by rfl) _ 0 [] (by rfl) M3.out _ 0 0 [] (by rfl) S3.out (by omega) (by show wS.heap.size ≤ (wS.alloc _).heap.size; simp) ?_; intro v6 w6 ho6 hg6; obtain ⟨ao6, c6, rfl, q0, q2, q3, q4, q5⟩ := KEY.out v6 w6 ho6 hg6; have qa : ∀ {pp : Addr} {vv : Value}, w6.cell? pp = some vv → (w6.alloc (.cells #[.string ⟨fnm.toArray⟩, .int .i64 0, .slice ao6 0 c6] 71)).cell? pp = some vv := fun hh => below_cell ((Below.refl _ _).alloc (Nat.le_refl _) _) hh; clear ho6 hg6)
              | (refine step_append_rec fileKind_ok (by rfl) _ _ 22 71 (by rfl) w.heap.size i0 _ 48 Try.underlying22 hi hz0 hz1 hz2 (by rfl) u5 _ es' (by rfl) q4.out _ 1 (⟨fnm, 0, ao6, c6, []⟩ : Ent) (by rfl) (rec_cells (k := fileKind) w6 71 (⟨fnm, 0, ao6, c6, []⟩ : Ent)) (by unfold maxLen; omega) (by omega) q5.out ?_; intro v7 w7 ho7 hg7; have rr1 : ∀ {o : Nat} {vv : Value}, (w6.alloc (.cells #[.string ⟨fnm.toArray⟩, .int .i64 0, .slice ao6 0 c6] 71)).cell? ⟨wr.heap.size, o, none⟩ = some vv → w7.cell? ⟨wr.heap.size, o, none⟩ = some vv := fun hh => hg7.cell hh hn3; have HO7 := keep ho7; have HG7 := keep hg7; clear ho7 hg7))
          have gn : Hid (Fresh 71 w w7 v7 ((Dk.keptAll r.files (zs.map up)).take (t + 1)) (es' ++ [(⟨fnm, 0, ao6, c6, []⟩ : Ent)])) := by
            have h1 := hg.out.more (by decide) q2.out q3.out (f := ⟨fnm, 0, []⟩) rfl HO7.out HG7.out
            rw [← hkk0.out, ← hst.out] at h1
            exact h1
          clear rr1 qa q0
          go_wp2
          go_roundw
          case rel => exact ⟨t + 1, es' ++ [(⟨fnm, 0, ao6, c6, []⟩ : Ent)], by omega, by first | rfl | go_num, gn⟩
          case measure => simp [intOf]; omega
        · have hs1 : (kk : Int) ≤ (k : Int) := by have := HHE.out.cap; omega
          have S3 : Hid (Src ((wS.alloc (.cells #[] 5)).drew) (some pad) kk k (fbs.take kk)) := ((HHE.out.cut hku).below eW.out).below (((Below.refl _ _).alloc (Nat.le_refl _) _).trans (Below.refl _ _).drew)
          have M3 : Hid (((wS.alloc (.cells #[] 5)).drew).ownsRow wS.heap.size 5 1 (.slice (some ⟨wS.heap.size, 0, none⟩) 0 0) 0 (bv [])) := World.ownsRow_made wS #[] 0 (Nat.le_refl _) (by unfold maxLen; omega) rfl
          have KEY : Hid (∀ v6 w6, w6.ownsRow wS.heap.size 5 1 v6 (0 + kk) (bv ([] ++ fbs.take kk)) → ((wS.alloc (.cells #[] 5)).drew).grownBy w6 (some wS.heap.size) → ∃ ao6 c6, v6 = .slice ao6 kk c6 ∧ (w6.cell? ⟨wr.heap.size, 0, none⟩ = some (.string ⟨fnm.toArray⟩) ∧ w6.cell? ⟨wr.heap.size, 2, none⟩ = some (.slice (some pad) (fsf + u) k)) ∧
              Hid (Below wr.heap.size wr (w6.alloc (.cells #[.string ⟨fnm.toArray⟩, .int .i64 (kk : Int), .slice ao6 kk c6] 71))) ∧ Hid (Bytes' w.heap.size (w6.alloc (.cells #[.string ⟨fnm.toArray⟩, .int .i64 (kk : Int), .slice ao6 kk c6] 71)) (⟨fnm, (kk : Int), ao6, c6, fbs.take kk⟩ : Ent)) ∧ Hid ((w6.alloc (.cells #[.string ⟨fnm.toArray⟩, .int .i64 (kk : Int), .slice ao6 kk c6] 71)).ownsRow w.heap.size 71 3 u5 ((Dk.keptAll r.files (zs.map up)).take t).length (rv fileKind es')) ∧ Hid (w.heap.size ≤ (w6.alloc (.cells #[.string ⟨fnm.toArray⟩, .int .i64 (kk : Int), .slice ao6 kk c6] 71)).heap.size)) := by
            intro v6 w6 h1 h2
            simp only [Nat.zero_add, List.nil_append] at h1
            obtain ⟨ao6, c6, rfl⟩ := own_slice h1
            have b6 : Below wS.heap.size wS w6 := (((Below.refl _ _).alloc (Nat.le_refl _) _).trans (Below.refl _ _).drew).grown h2 (by show wS.heap.size ≤ (wS.alloc _).heap.size; simp) (fun g e => by cases e; exact Nat.le_refl _)
            have b7 : Below wr.heap.size wr (w6.alloc (.cells #[.string ⟨fnm.toArray⟩, .int .i64 (kk : Int), .slice ao6 kk c6] 71)) := (eW.out.trans (b6.mono eW.out.size)).alloc (Nat.le_trans eW.out.size b6.size) _
            refine ⟨ao6, c6, rfl, ⟨below_cell b6 m0, below_cell b6 m2⟩, b7, ?_, own_block hg.out.own (fun g hgg => b7.block g (own_size hg.out.own hgg)), Nat.le_trans hg.out.bel.size b7.size⟩
            have h3 : w6.ownsRow w.heap.size 5 1 (.slice ao6 kk c6) kk (bv (fbs.take kk)) := own_base h1 (fun g hgg => Nat.le_trans hg.out.bel.size (Nat.le_trans eW.out.size (h1.lt g hgg).1))
            have h4 : (w6.alloc (.cells #[.string ⟨fnm.toArray⟩, .int .i64 (kk : Int), .slice ao6 kk c6] 71)).ownsRow w.heap.size 5 1 (.slice ao6 kk c6) kk (bv (fbs.take kk)) := own_block h3 (fun g hgg => Below.heap_alloc _ _ g (own_size h3 hgg))
            show (w6.alloc (.cells #[.string ⟨fnm.toArray⟩, .int .i64 (kk : Int), .slice ao6 kk c6] 71)).ownsRow w.heap.size 5 1 (.slice ao6 (fbs.take kk).length c6) (fbs.take kk).length (bv (fbs.take kk))
            rw [htk]
            exact h4
          have hn3 : some wr.heap.size ≠ u5.ownBlock := fun e => by have := own_size hg.out.own e.symm; omega
          go_wp2_with fail
          go_region_held3 (fun w' => w'.cell? ⟨wr.heap.size, 0, none⟩ = some (.string ⟨fnm.toArray⟩) ∧ w'.cell? ⟨wr.heap.size, 2, none⟩ = some (.slice (some pad) (fsf + u) k))
            (first | go_keep | exact q0 | exact ⟨qa q0.1, qa q0.2⟩ | exact ⟨rr1 (qa q0.1), rr1 (qa q0.2)⟩)
            (first
              | (refine step_append_src (by rfl) _ _ 35 (by rfl) wS.heap.size i00 _ Try.underlying35 hi0 hy0 hy1 hy2 (by rfl) _ 0 [] (by rfl) M3.out _ kk k (fbs.take kk) (by rfl) S3.out (by omega) (by show wS.heap.size ≤ (wS.alloc _).heap.size; simp) ?_; intro v6 w6 ho6 hg6; obtain ⟨ao6, c6, rfl, q0, q2, q3, q4, q5⟩ := KEY.out v6 w6 ho6 hg6; have qa : ∀ {pp : Addr} {vv : Value}, w6.cell? pp = some vv → (w6.alloc (.cells #[.string ⟨fnm.toArray⟩, .int .i64 (kk : Int), .slice ao6 kk c6] 71)).cell? pp = some vv := fun hh => below_cell ((Below.refl _ _).alloc (Nat.le_refl _) _) hh; clear ho6 hg6)
              | (refine step_append_rec fileKind_ok (by rfl) _ _ 22 71 (by rfl) w.heap.size i0 _ 48 Try.underlying22 hi hz0 hz1 hz2 (by rfl) u5 _ es' (by rfl) q4.out _ 1 (⟨fnm, (kk : Int), ao6, c6, fbs.take kk⟩ : Ent) (by rfl) (by have hq := rec_cells (k := fileKind) w6 71 (⟨fnm, (kk : Int), ao6, c6, fbs.take kk⟩ : Ent); simp only [fileKind, htk] at hq ⊢; exact hq) (by unfold maxLen; omega) (by omega) q5.out ?_; intro v7 w7 ho7 hg7; have rr1 : ∀ {o : Nat} {vv : Value}, (w6.alloc (.cells #[.string ⟨fnm.toArray⟩, .int .i64 (kk : Int), .slice ao6 kk c6] 71)).cell? ⟨wr.heap.size, o, none⟩ = some vv → w7.cell? ⟨wr.heap.size, o, none⟩ = some vv := fun hh => hg7.cell hh hn3; have HO7 := keep ho7; have HG7 := keep hg7; clear ho7 hg7))
          have gn : Hid (Fresh 71 w w7 v7 ((Dk.keptAll r.files (zs.map up)).take (t + 1)) (es' ++ [(⟨fnm, (kk : Int), ao6, c6, fbs.take kk⟩ : Ent)])) := by
            have h1 := hg.out.more (by decide) q2.out q3.out (f := ⟨fnm, kk, fbs.take kk⟩) rfl HO7.out HG7.out
            rw [← hkk.out, ← hst.out] at h1
            exact h1
          clear rr1 qa q0
          go_wp2
          go_roundw
          case rel => exact ⟨t + 1, es' ++ [(⟨fnm, (kk : Int), ao6, c6, fbs.take kk⟩ : Ent)], by omega, by first | rfl | go_num, gn⟩
          case measure => simp [intOf]; omega
      · have hz0' : z = 0 := by
          rw [← hzz]
          have hh : ¬ t < zs.length := by omega
          simp [List.getD, hh]
        have p1 : ¬ (t : Int) < (n2 : Int) := by omega
        clear hzr hzz hzl
        have LB := (Below.refl wr.heap.size wr).alloc (Nat.le_refl _) (.cells #[.string ⟨fnm.toArray⟩, .int .i64 (fsf : Int), .slice p (fsf + u) k] 71)
        have lg := heap_alloc_new wr (.cells #[.string ⟨fnm.toArray⟩, .int .i64 (fsf : Int), .slice p (fsf + u) k] 71)
        go_wp2_with fail
        obtain ⟨kk, hk⟩ : ∃ kk, kk = fsf + up z % (u + 1) := ⟨_, rfl⟩
        have hku : kk ≤ fsf + u := by have := Nat.mod_lt (up z) (show 0 < u + 1 by omega); omega
        have hk0 : kk = fsf := by rw [hk, hz0', show up 0 = 0 from rfl, Nat.zero_mod]; rfl
        have hkk : Hid (Dk.kept ⟨fnm, fsf, fbs⟩ (up z) = ⟨fnm, kk, fbs.take kk⟩) := by
          show Dk.kept ⟨fnm, fsf, fbs⟩ (up z) = ⟨fnm, kk, fbs.take kk⟩
          have : fbs.length - fsf + 1 = u + 1 := by have := HU.out; omega
          simp only [Dk.kept, this, ← hk]
        have HL := keep LB
        have LG := keep lg
        clear hk LB lg
        have hk1 := hk0.symm
        clear hk0
        subst hk1
        go_region
        obtain ⟨wS, hwS⟩ : ∃ ws, ws = (wr.alloc (.cells #[.string ⟨fnm.toArray⟩, .int .i64 (fsf : Int), .slice p (fsf + u) k] 71)).drew := ⟨_, rfl⟩
        rw [← hwS]
        have eW := keep (show Below wr.heap.size wr wS by rw [hwS]; exact HL.out.trans (Below.refl _ _).drew)
        have m0 : wS.cell? ⟨wr.heap.size, 0, none⟩ = some (.string ⟨fnm.toArray⟩) := by rw [hwS]; exact (cell_of_row _ _ _ _ _ _ LG.out : (wr.alloc _).cell? ⟨wr.heap.size, 0, none⟩ = _)
        have m2 : wS.cell? ⟨wr.heap.size, 2, none⟩ = some (.slice p (fsf + u) k) := by rw [hwS]; exact (cell_of_row _ _ _ _ _ _ LG.out : (wr.alloc _).cell? ⟨wr.heap.size, 2, none⟩ = _)
        clear hwS cr hc0 hc1 hc2
        have htk : (fbs.take fsf).length = fsf := by rw [List.length_take]; have := HU.out; omega
        have hs0 : (0 : Int) ≤ (fsf : Int) := by omega
        rcases hpn.out with ⟨rfl, n1, n2, rfl, e4⟩ | ⟨pad, rfl⟩
        · subst n1 n2 e4
          have hkk0 : Hid (Dk.kept ⟨fnm, 0, []⟩ (up z) = ⟨fnm, 0, []⟩) := hkk.out
          have m2' : wS.cell? ⟨wr.heap.size, 2, none⟩ = some (.slice none 0 0) := m2
          have S0 : Src wS none 0 0 [] := Src.empty (fun _ => rfl)
          clear m2 hkk
          simp only [Nat.add_zero, Int.natCast_zero]
          have S3 : Hid (Src ((wS.alloc (.cells #[] 5)).drew) none 0 0 []) := S0.below (((Below.refl _ _).alloc (Nat.le_refl _) _).trans (Below.refl _ _).drew)
          have M3 : Hid (((wS.alloc (.cells #[] 5)).drew).ownsRow wS.heap.size 5 1 (.slice (some ⟨wS.heap.size, 0, none⟩) 0 0) 0 (bv [])) := World.ownsRow_made wS #[] 0 (Nat.le_refl _) (by unfold maxLen; omega) rfl
          have KEY : Hid (∀ v6 w6, w6.ownsRow wS.heap.size 5 1 v6 (0 + 0) (bv ([] ++ [])) → ((wS.alloc (.cells #[] 5)).drew).grownBy w6 (some wS.heap.size) → ∃ ao6 c6, v6 = .slice ao6 0 c6 ∧ (w6.cell? ⟨wr.heap.size, 0, none⟩ = some (.string ⟨fnm.toArray⟩) ∧ w6.cell? ⟨wr.heap.size, 2, none⟩ = some (.slice none 0 0)) ∧
              Hid (Below wr.heap.size wr (w6.alloc (.cells #[.string ⟨fnm.toArray⟩, .int .i64 0, .slice ao6 0 c6] 71))) ∧ Hid (Bytes' w.heap.size (w6.alloc (.cells #[.string ⟨fnm.toArray⟩, .int .i64 0, .slice ao6 0 c6] 71)) (⟨fnm, 0, ao6, c6, []⟩ : Ent)) ∧ Hid ((w6.alloc (.cells #[.string ⟨fnm.toArray⟩, .int .i64 0, .slice ao6 0 c6] 71)).ownsRow w.heap.size 71 3 u5 ((Dk.keptAll r.files (zs.map up)).take t).length (rv fileKind es')) ∧ Hid (w.heap.size ≤ (w6.alloc (.cells #[.string ⟨fnm.toArray⟩, .int .i64 0, .slice ao6 0 c6] 71)).heap.size)) := by
            intro v6 w6 h1 h2
            simp only [List.nil_append, Nat.add_zero] at h1
            obtain ⟨ao6, c6, rfl⟩ := own_slice h1
            have b6 : Below wS.heap.size wS w6 := (((Below.refl _ _).alloc (Nat.le_refl _) _).trans (Below.refl _ _).drew).grown h2 (by show wS.heap.size ≤ (wS.alloc _).heap.size; simp) (fun g e => by cases e; exact Nat.le_refl _)
            have b7 : Below wr.heap.size wr (w6.alloc (.cells #[.string ⟨fnm.toArray⟩, .int .i64 0, .slice ao6 0 c6] 71)) := (eW.out.trans (b6.mono eW.out.size)).alloc (Nat.le_trans eW.out.size b6.size) _
            refine ⟨ao6, c6, rfl, ⟨below_cell b6 m0, below_cell b6 m2'⟩, b7, ?_, own_block hg.out.own (fun g hgg => b7.block g (own_size hg.out.own hgg)), Nat.le_trans hg.out.bel.size b7.size⟩
            have h3 : w6.ownsRow w.heap.size 5 1 (.slice ao6 0 c6) 0 (bv []) := own_base h1 (fun g hgg => Nat.le_trans hg.out.bel.size (Nat.le_trans eW.out.size (h1.lt g hgg).1))
            have h4 : (w6.alloc (.cells #[.string ⟨fnm.toArray⟩, .int .i64 0, .slice ao6 0 c6] 71)).ownsRow w.heap.size 5 1 (.slice ao6 0 c6) 0 (bv []) := own_block h3 (fun g hgg => Below.heap_alloc _ _ g (own_size h3 hgg))
            show (w6.alloc (.cells #[.string ⟨fnm.toArray⟩, .int .i64 0, .slice ao6 0 c6] 71)).ownsRow w.heap.size 5 1 (.slice ao6 [].length c6) [].length (bv [])
            exact h4
          have hn3 : some wr.heap.size ≠ u5.ownBlock := fun e => by have := own_size hg.out.own e.symm; omega
          go_wp2_with fail
          go_region_held3 (fun w' => w'.cell? ⟨wr.heap.size, 0, none⟩ = some (.string ⟨fnm.toArray⟩) ∧ w'.cell? ⟨wr.heap.size, 2, none⟩ = some (.slice none 0 0))
            (first | go_keep | exact q0 | exact ⟨qa q0.1, qa q0.2⟩ | exact ⟨rr1 (qa q0.1), rr1 (qa q0.2)⟩)
            (first
              | (refine step_append_src (by rfl) _ _ 35 (by rfl) wS.heap.size i00 _ Try.underlying35 hi0 hy0 hy1 hy2 (by rfl) _ 0 [] (by rfl) M3.out _ 0 0 [] (by rfl) S3.out (by omega) (by show wS.heap.size ≤ (wS.alloc _).heap.size; simp) ?_; intro v6 w6 ho6 hg6; obtain ⟨ao6, c6, rfl, q0, q2, q3, q4, q5⟩ := KEY.out v6 w6 ho6 hg6; have qa : ∀ {pp : Addr} {vv : Value}, w6.cell? pp = some vv → (w6.alloc (.cells #[.string ⟨fnm.toArray⟩, .int .i64 0, .slice ao6 0 c6] 71)).cell? pp = some vv := fun hh => below_cell ((Below.refl _ _).alloc (Nat.le_refl _) _) hh; clear ho6 hg6)
              | (refine step_append_rec fileKind_ok (by rfl) _ _ 22 71 (by rfl) w.heap.size i0 _ 48 Try.underlying22 hi hz0 hz1 hz2 (by rfl) u5 _ es' (by rfl) q4.out _ 1 (⟨fnm, 0, ao6, c6, []⟩ : Ent) (by rfl) (rec_cells (k := fileKind) w6 71 (⟨fnm, 0, ao6, c6, []⟩ : Ent)) (by unfold maxLen; omega) (by omega) q5.out ?_; intro v7 w7 ho7 hg7; have rr1 : ∀ {o : Nat} {vv : Value}, (w6.alloc (.cells #[.string ⟨fnm.toArray⟩, .int .i64 0, .slice ao6 0 c6] 71)).cell? ⟨wr.heap.size, o, none⟩ = some vv → w7.cell? ⟨wr.heap.size, o, none⟩ = some vv := fun hh => hg7.cell hh hn3; have HO7 := keep ho7; have HG7 := keep hg7; clear ho7 hg7))
          have gn : Hid (Fresh 71 w w7 v7 ((Dk.keptAll r.files (zs.map up)).take (t + 1)) (es' ++ [(⟨fnm, 0, ao6, c6, []⟩ : Ent)])) := by
            have h1 := hg.out.more (by decide) q2.out q3.out (f := ⟨fnm, 0, []⟩) rfl HO7.out HG7.out
            rw [← hkk0.out, ← hst.out] at h1
            exact h1
          clear rr1 qa q0
          go_wp2
          go_roundw
          case rel => exact ⟨t + 1, es' ++ [(⟨fnm, 0, ao6, c6, []⟩ : Ent)], by omega, by first | rfl | go_num, gn⟩
          case measure => simp [intOf]; omega
        · have hs1 : (fsf : Int) ≤ (k : Int) := by have := HHE.out.cap; omega
          have S3 : Hid (Src ((wS.alloc (.cells #[] 5)).drew) (some pad) fsf k (fbs.take fsf)) := ((HHE.out.cut hku).below eW.out).below (((Below.refl _ _).alloc (Nat.le_refl _) _).trans (Below.refl _ _).drew)
          have M3 : Hid (((wS.alloc (.cells #[] 5)).drew).ownsRow wS.heap.size 5 1 (.slice (some ⟨wS.heap.size, 0, none⟩) 0 0) 0 (bv [])) := World.ownsRow_made wS #[] 0 (Nat.le_refl _) (by unfold maxLen; omega) rfl
          have KEY : Hid (∀ v6 w6, w6.ownsRow wS.heap.size 5 1 v6 (0 + fsf) (bv ([] ++ fbs.take fsf)) → ((wS.alloc (.cells #[] 5)).drew).grownBy w6 (some wS.heap.size) → ∃ ao6 c6, v6 = .slice ao6 fsf c6 ∧ (w6.cell? ⟨wr.heap.size, 0, none⟩ = some (.string ⟨fnm.toArray⟩) ∧ w6.cell? ⟨wr.heap.size, 2, none⟩ = some (.slice (some pad) (fsf + u) k)) ∧
              Hid (Below wr.heap.size wr (w6.alloc (.cells #[.string ⟨fnm.toArray⟩, .int .i64 (fsf : Int), .slice ao6 fsf c6] 71))) ∧ Hid (Bytes' w.heap.size (w6.alloc (.cells #[.string ⟨fnm.toArray⟩, .int .i64 (fsf : Int), .slice ao6 fsf c6] 71)) (⟨fnm, (fsf : Int), ao6, c6, fbs.take fsf⟩ : Ent)) ∧ Hid ((w6.alloc (.cells #[.string ⟨fnm.toArray⟩, .int .i64 (fsf : Int), .slice ao6 fsf c6] 71)).ownsRow w.heap.size 71 3 u5 ((Dk.keptAll r.files (zs.map up)).take t).length (rv fileKind es')) ∧ Hid (w.heap.size ≤ (w6.alloc (.cells #[.string ⟨fnm.toArray⟩, .int .i64 (fsf : Int), .slice ao6 fsf c6] 71)).heap.size)) := by
            intro v6 w6 h1 h2
            simp only [Nat.zero_add, List.nil_append] at h1
            obtain ⟨ao6, c6, rfl⟩ := own_slice h1
            have b6 : Below wS.heap.size wS w6 := (((Below.refl _ _).alloc (Nat.le_refl _) _).trans (Below.refl _ _).drew).grown h2 (by show wS.heap.size ≤ (wS.alloc _).heap.size; simp) (fun g e => by cases e; exact Nat.le_refl _)
            have b7 : Below wr.heap.size wr (w6.alloc (.cells #[.string ⟨fnm.toArray⟩, .int .i64 (fsf : Int), .slice ao6 fsf c6] 71)) := (eW.out.trans (b6.mono eW.out.size)).alloc (Nat.le_trans eW.out.size b6.size) _
            refine ⟨ao6, c6, rfl, ⟨below_cell b6 m0, below_cell b6 m2⟩, b7, ?_, own_block hg.out.own (fun g hgg => b7.block g (own_size hg.out.own hgg)), Nat.le_trans hg.out.bel.size b7.size⟩
            have h3 : w6.ownsRow w.heap.size 5 1 (.slice ao6 fsf c6) fsf (bv (fbs.take fsf)) := own_base h1 (fun g hgg => Nat.le_trans hg.out.bel.size (Nat.le_trans eW.out.size (h1.lt g hgg).1))
            have h4 : (w6.alloc (.cells #[.string ⟨fnm.toArray⟩, .int .i64 (fsf : Int), .slice ao6 fsf c6] 71)).ownsRow w.heap.size 5 1 (.slice ao6 fsf c6) fsf (bv (fbs.take fsf)) := own_block h3 (fun g hgg => Below.heap_alloc _ _ g (own_size h3 hgg))
            show (w6.alloc (.cells #[.string ⟨fnm.toArray⟩, .int .i64 (fsf : Int), .slice ao6 fsf c6] 71)).ownsRow w.heap.size 5 1 (.slice ao6 (fbs.take fsf).length c6) (fbs.take fsf).length (bv (fbs.take fsf))
            rw [htk]
            exact h4
          have hn3 : some wr.heap.size ≠ u5.ownBlock := fun e => by have := own_size hg.out.own e.symm; omega
          go_wp2_with fail
          go_region_held3 (fun w' => w'.cell? ⟨wr.heap.size, 0, none⟩ = some (.string ⟨fnm.toArray⟩) ∧ w'.cell? ⟨wr.heap.size, 2, none⟩ = some (.slice (some pad) (fsf + u) k))
            (first | go_keep | exact q0 | exact ⟨qa q0.1, qa q0.2⟩ | exact ⟨rr1 (qa q0.1), rr1 (qa q0.2)⟩)
            (first
              | (refine step_append_src (by rfl) _ _ 35 (by rfl) wS.heap.size i00 _ Try.underlying35 hi0 hy0 hy1 hy2 (by rfl) _ 0 [] (by rfl) M3.out _ fsf k (fbs.take fsf) (by rfl) S3.out (by omega) (by show wS.heap.size ≤ (wS.alloc _).heap.size; simp) ?_; intro v6 w6 ho6 hg6; obtain ⟨ao6, c6, rfl, q0, q2, q3, q4, q5⟩ := KEY.out v6 w6 ho6 hg6; have qa : ∀ {pp : Addr} {vv : Value}, w6.cell? pp = some vv → (w6.alloc (.cells #[.string ⟨fnm.toArray⟩, .int .i64 (fsf : Int), .slice ao6 fsf c6] 71)).cell? pp = some vv := fun hh => below_cell ((Below.refl _ _).alloc (Nat.le_refl _) _) hh; clear ho6 hg6)
              | (refine step_append_rec fileKind_ok (by rfl) _ _ 22 71 (by rfl) w.heap.size i0 _ 48 Try.underlying22 hi hz0 hz1 hz2 (by rfl) u5 _ es' (by rfl) q4.out _ 1 (⟨fnm, (fsf : Int), ao6, c6, fbs.take fsf⟩ : Ent) (by rfl) (by have hq := rec_cells (k := fileKind) w6 71 (⟨fnm, (fsf : Int), ao6, c6, fbs.take fsf⟩ : Ent); simp only [fileKind, htk] at hq ⊢; exact hq) (by unfold maxLen; omega) (by omega) q5.out ?_; intro v7 w7 ho7 hg7; have rr1 : ∀ {o : Nat} {vv : Value}, (w6.alloc (.cells #[.string ⟨fnm.toArray⟩, .int .i64 (fsf : Int), .slice ao6 fsf c6] 71)).cell? ⟨wr.heap.size, o, none⟩ = some vv → w7.cell? ⟨wr.heap.size, o, none⟩ = some vv := fun hh => hg7.cell hh hn3; have HO7 := keep ho7; have HG7 := keep hg7; clear ho7 hg7))
          have gn : Hid (Fresh 71 w w7 v7 ((Dk.keptAll r.files (zs.map up)).take (t + 1)) (es' ++ [(⟨fnm, (fsf : Int), ao6, c6, fbs.take fsf⟩ : Ent)])) := by
            have h1 := hg.out.more (by decide) q2.out q3.out (f := ⟨fnm, fsf, fbs.take fsf⟩) rfl HO7.out HG7.out
            rw [← hkk.out, ← hst.out] at h1
            exact h1
          clear rr1 qa q0
          go_wp2
          go_roundw
          case rel => exact ⟨t + 1, es' ++ [(⟨fnm, (fsf : Int), ao6, c6, fbs.take fsf⟩ : Ent)], by omega, by first | rfl | go_num, gn⟩
          case measure => simp [intOf]; omega
    · obtain rfl : t = nn := by omega
      have hall := hg.out
      rw [List.take_of_length_le (by rw [Dk.keptAll_length]; have := HLEN.out; omega)] at hall
      obtain ⟨ao5, c5, rfl, _, hr5⟩ := hall.rows
      have H5 := keep hr5
      have B5 := keep hall.bel
      have Rr := keep (HM.out.below B5.out)
      have hbx := keep Rr.out.box
      have f0 := hbx.out.warm
      have c3 := hbx.out.c3
      have c4 := hbx.out.c4
      clear hall hr5
      go_wp2
      go_ret
      have hlen : (Dk.keptAll r.files (zs.map up)).length = r.files.length := Dk.keptAll_length _ _
      have hb9 := ((hbx.out.set1 (.slice ao5 (Dk.keptAll r.files (zs.map up)).length c5)).set4 false).set3 (-1)
      have hk9 : Kept (At q) wr (((wr.setCell ⟨q, 1, none⟩ (.slice ao5 (Dk.keptAll r.files (zs.map up)).length c5)).setCell ⟨q, 4, none⟩ (.bool false)).setCell ⟨q, 3, none⟩ (.int .i64 (-1))) := (((Kept.refl _ _).at_set _ _).at_set _ _).at_set _ _
      have hrw : Rows4 (beside F q) (((wr.setCell ⟨q, 1, none⟩ (.slice ao5 (Dk.keptAll r.files (zs.map up)).length c5)).setCell ⟨q, 4, none⟩ (.bool false)).setCell ⟨q, 3, none⟩ (.int .i64 (-1))) ao5 (Dk.keptAll r.files (zs.map up)).length c5 es' (Dk.keptAll r.files (zs.map up)) := by
        have h1 := H5.out.next (hk9.wide (fun g _ e => by have : g = q := e; rw [this]; exact HM.out.box.lt))
        exact ⟨fun w8 hk8 => h1.rows w8 (hk8.wide (fun g _ e => HM.out.inside g e)), h1.same, h1.len⟩
      refine ⟨rfl, ⟨_, _, _, _, ⟨hb9, hrw, Dk.crash_good _ HM.out.good, HM.out.capb, HM.out.out, ?_, (fun k e => by cases e)⟩⟩, (Kept.of_below B5.out).trans hk9⟩
      exact fun g hgf => Nat.lt_of_lt_of_le (HM.out.lt g hgf) (Nat.le_trans B5.out.size hk9.size)
end Go.Proofs.Ytfjhfecjbheipaa
