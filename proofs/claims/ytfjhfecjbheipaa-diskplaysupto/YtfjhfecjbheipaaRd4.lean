/- The walks of the document's Dump and Copy. -/
import Derived.Test.YtfjhfecjbheipaaR9
namespace Go.Proofs.Ytfjhfecjbheipaa
open Go.RowKit
open Dk (File Disk)

set_option maxHeartbeats 1000000 in
set_option maxRecDepth 100000 in
theorem rdump_any (F : Nat → Prop) (q : Nat) (r : Disk) (w : World) (h : Ref F w q r) :
    Calls Try.prog 17 #[.pointer (some ⟨q, 0, none⟩)] w fun e w' => ∃ ao c es, e = .returned (.slice ao r.files.length c) ∧ c ≤ maxLen ∧ Rows4 (Old w.heap.size) w' ao r.files.length c es r.files ∧ Below w.heap.size w w' := by
  obtain ⟨ao, nn, c, es, h⟩ := h
  have HM := keep h
  have c1 := h.box.c1
  have HLEN := keep h.rows.len
  have hnn := h.few
  obtain ⟨i0, hi, hz0, hz1, hz2⟩ := info_parts3 infoR
  obtain ⟨i00, hi0, hy0, hy1, hy2⟩ := info_parts info5
  clear h
  go_enter Try.func17, Try.ntmps17
  go_wp2_with fail
  go_loopw [3, 4] (fun v i wr => ∃ (t : Nat) (es' : List Ent), t ≤ nn ∧ i = .int .i64 (t : Int) ∧ Hid (Fresh 71 w wr v (r.files.take t) es')) (fun _ i _ => nn - (intOf i).toNat)
  case atStart => exact ⟨0, [], Nat.zero_le _, rfl, Fresh.nil _ w w (Below.refl _ _)⟩
  case round =>
    obtain ⟨t, es', ht, rfl, hg⟩ := hrel
    have cr := below_cell hg.out.bel c1
    rcases Nat.lt_or_ge t nn with hlt | hge
    · obtain ⟨f, hf⟩ : ∃ f, r.files[t]? = some f := ⟨r.files[t]'(by have := HLEN.out; omega), List.getElem?_eq_getElem _⟩
      have Rr := keep (HM.out.below hg.out.bel)
      obtain ⟨b, off, hao, hbl, hat⟩ := Rr.out.rows.at_ (by omega)
      obtain ⟨p, k, hek, hc0, hc1, hc2⟩ := hat t f hf
      have hhe := keep ((Rr.out.rows.held (List.mem_of_getElem? hek)).here)
      rw [hao] at cr
      have j0 : (0 : Int) ≤ (t : Int) := by omega
      have j1 : (t : Int) < (nn : Int) := by omega
      have hst := keep (show r.files.take (t + 1) = r.files.take t ++ [f] by rw [List.take_add_one, hf]; rfl)
      have hfl : f.bytes.length ≤ 1099511627776 := by
        have h1 := used_mem (List.mem_of_getElem? hf)
        have h2 := HM.out.good.room
        have h3 := HM.out.capb
        simp only [Dk.cost] at h1
        omega
      obtain ⟨fnm, fsf, fbs⟩ := f
      have hln : (r.files.take t).length ≤ 1099511627776 := by rw [List.length_take]; omega
      clear hat hf hek hao
      have S3 : Hid (Src ((wr.alloc (.cells #[] 5)).drew) p fbs.length k fbs) := hhe.out.below (((Below.refl _ _).alloc (Nat.le_refl _) _).trans (Below.refl _ _).drew)
      have M3 : Hid (((wr.alloc (.cells #[] 5)).drew).ownsRow wr.heap.size 5 1 (.slice (some ⟨wr.heap.size, 0, none⟩) 0 0) 0 (bv [])) := World.ownsRow_made wr #[] 0 (Nat.le_refl _) (by unfold maxLen; omega) rfl
      have hqlt : q < wr.heap.size := Rr.out.box.lt
      have KEY : Hid (∀ v6 w6, w6.ownsRow wr.heap.size 5 1 v6 (0 + fbs.length) (bv ([] ++ fbs)) → ((wr.alloc (.cells #[] 5)).drew).grownBy w6 (some wr.heap.size) → ∃ ao6 c6, v6 = .slice ao6 fbs.length c6 ∧ (w6.cell? ⟨q, 1, none⟩ = some (.slice (some ⟨b, off, none⟩) nn c) ∧ w6.cell? ⟨b, off + t * 3, none⟩ = some (.string ⟨fnm.toArray⟩) ∧ w6.cell? ⟨b, off + t * 3 + 1, none⟩ = some (.int .i64 (fsf : Int)) ∧ w6.cell? ⟨b, off + t * 3 + 2, none⟩ = some (.slice p fbs.length k)) ∧
          Hid (Below wr.heap.size wr (w6.alloc (.cells #[.string ⟨fnm.toArray⟩, .int .i64 (fsf : Int), .slice ao6 fbs.length c6] 71))) ∧ Hid (Bytes' w.heap.size (w6.alloc (.cells #[.string ⟨fnm.toArray⟩, .int .i64 (fsf : Int), .slice ao6 fbs.length c6] 71)) (⟨fnm, (fsf : Int), ao6, c6, fbs⟩ : Ent)) ∧ Hid ((w6.alloc (.cells #[.string ⟨fnm.toArray⟩, .int .i64 (fsf : Int), .slice ao6 fbs.length c6] 71)).ownsRow w.heap.size 71 3 u3 (r.files.take t).length (rv fileKind es')) ∧ Hid (w.heap.size ≤ (w6.alloc (.cells #[.string ⟨fnm.toArray⟩, .int .i64 (fsf : Int), .slice ao6 fbs.length c6] 71)).heap.size)) := by
        intro v6 w6 h1 h2
        simp only [Nat.zero_add, List.nil_append] at h1
        obtain ⟨ao6, c6, rfl⟩ := own_slice h1
        have b6 : Below wr.heap.size wr w6 := (((Below.refl _ _).alloc (Nat.le_refl _) _).trans (Below.refl _ _).drew).grown h2 (by show wr.heap.size ≤ (wr.alloc _).heap.size; simp) (fun g e => by cases e; exact Nat.le_refl _)
        have b7 : Below wr.heap.size wr (w6.alloc (.cells #[.string ⟨fnm.toArray⟩, .int .i64 (fsf : Int), .slice ao6 fbs.length c6] 71)) := b6.alloc b6.size _
        refine ⟨ao6, c6, rfl, ⟨below_cell b6 cr, below_cell b6 hc0, below_cell b6 hc1, below_cell b6 hc2⟩, b7, ?_, own_block hg.out.own (fun g hgg => b7.block g (own_size hg.out.own hgg)), Nat.le_trans hg.out.bel.size b7.size⟩
        have h3 : w6.ownsRow w.heap.size 5 1 (.slice ao6 fbs.length c6) fbs.length (bv fbs) := own_base h1 (fun g hgg => Nat.le_trans hg.out.bel.size (h1.lt g hgg).1)
        exact own_block h3 (fun g hgg => Below.heap_alloc _ _ g (own_size h3 hgg))
      have hn3 : ∀ g, g = q ∨ g = b → some g ≠ u3.ownBlock := fun g hgg e => by
        obtain ⟨cur, hcur⟩ := own_tag hg.out.own e.symm
        have h0 := (hg.out.own.lt g e.symm).1
        have hbw : b < w.heap.size := by
          obtain ⟨bb', off', e', h1, _⟩ := HM.out.rows.at_ (by omega)
          obtain ⟨b2, off2, e2, _⟩ := Rr.out.rows.at_ (by omega)
          rw [e'] at e2
          have := Rr.out.box.c1
          rw [e'] at this
          rw [this] at cr
          cases cr
          exact h1
        have hqw : q < w.heap.size := HM.out.box.lt
        rcases hgg with h1 | h1
        · omega
        · omega
      go_wp2_with fail
      go_region_held3 (fun w' => w'.cell? ⟨q, 1, none⟩ = some (.slice (some ⟨b, off, none⟩) nn c) ∧ w'.cell? ⟨b, off + t * 3, none⟩ = some (.string ⟨fnm.toArray⟩) ∧ w'.cell? ⟨b, off + t * 3 + 1, none⟩ = some (.int .i64 (fsf : Int)) ∧ w'.cell? ⟨b, off + t * 3 + 2, none⟩ = some (.slice p fbs.length k))
        (first | go_keep | exact q0 | exact ⟨qa q0.1, qa q0.2.1, qa q0.2.2.1, qa q0.2.2.2⟩ | exact ⟨rr1 (.inl rfl) (qa q0.1), rr1 (.inr rfl) (qa q0.2.1), rr1 (.inr rfl) (qa q0.2.2.1), rr1 (.inr rfl) (qa q0.2.2.2)⟩)
        (first
          | (refine step_append_src (by rfl) _ _ 35 (by rfl) wr.heap.size i00 _ Try.underlying35 hi0 hy0 hy1 hy2 (by rfl) _ 0 [] (by rfl) M3.out _ fbs.length k fbs (by rfl) S3.out (by omega) (by show wr.heap.size ≤ (wr.alloc _).heap.size; simp) ?_; intro v6 w6 ho6 hg6; obtain ⟨ao6, c6, rfl, q0, q2, q3, q4, q5⟩ := KEY.out v6 w6 ho6 hg6; have qa : ∀ {pp : Addr} {vv : Value}, w6.cell? pp = some vv → (w6.alloc (.cells #[.string ⟨fnm.toArray⟩, .int .i64 (fsf : Int), .slice ao6 fbs.length c6] 71)).cell? pp = some vv := fun hh => below_cell ((Below.refl _ _).alloc (Nat.le_refl _) _) hh; clear ho6 hg6)
          | (refine step_append_rec fileKind_ok (by rfl) _ _ 22 71 (by rfl) w.heap.size i0 _ 48 Try.underlying22 hi hz0 hz1 hz2 (by rfl) u3 _ es' (by rfl) q4.out _ 1 (⟨fnm, (fsf : Int), ao6, c6, fbs⟩ : Ent) (by rfl) (rec_cells (k := fileKind) _ _ (⟨fnm, (fsf : Int), ao6, c6, fbs⟩ : Ent)) (by unfold maxLen; omega) (by omega) q5.out ?_; intro v7 w7 ho7 hg7; have rr1 : ∀ {g : Nat} {o : Nat} {vv : Value}, (g = q ∨ g = b) → (w6.alloc (.cells #[.string ⟨fnm.toArray⟩, .int .i64 (fsf : Int), .slice ao6 fbs.length c6] 71)).cell? ⟨g, o, none⟩ = some vv → w7.cell? ⟨g, o, none⟩ = some vv := fun hgg hh => hg7.cell hh (hn3 _ hgg); have HO7 := keep ho7; have HG7 := keep hg7; clear ho7 hg7))
      have gn : Hid (Fresh 71 w w7 v7 (r.files.take (t + 1)) (es' ++ [(⟨fnm, (fsf : Int), ao6, c6, fbs⟩ : Ent)])) := by
        have h1 := hg.out.more (by decide) q2.out q3.out (f := ⟨fnm, fsf, fbs⟩) rfl HO7.out HG7.out
        rw [← hst.out] at h1
        exact h1
      clear rr1 qa q0
      go_wp2
      go_roundw
      case rel => exact ⟨t + 1, es' ++ [(⟨fnm, (fsf : Int), ao6, c6, fbs⟩ : Ent)], by omega, by first | rfl | go_num, gn⟩
      case measure => simp [intOf]; omega
    · obtain rfl : t = nn := by omega
      have hall := hg.out
      rw [List.take_of_length_le (by have := HLEN.out; omega)] at hall
      obtain ⟨ao5, c5, rfl, hc5, hr5⟩ := hall.rows
      have H5 := keep hr5
      have B5 := keep hall.bel
      clear hall hr5
      go_wp2
      go_ret
      exact ⟨ao5, c5, es', rfl, hc5, H5.out, B5.out⟩
/-- The document's disk at q, whatever becomes of the program's. -/
theorem Ref.steady {F : Nat → Prop} {w : World} {q : Nat} {r : Disk} (h : Ref F w q r) : Steady F w fun w => Ref (fun _ => False) w q r := by
  obtain ⟨ao, n, c, es, h⟩ := h
  intro w' hk
  exact ⟨ao, n, c, es, h.move hk (fun _ _ e => e.elim) (fun e => e) (fun _ e => e.elim)⟩
end Go.Proofs.Ytfjhfecjbheipaa
