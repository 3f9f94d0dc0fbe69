/- The walks of the document's Read, Dump; its New and Cut on plain files. -/
import Derived.Test.YtipkacaekbckhaaR8
namespace Go.Proofs.Ytipkacaekbckhaa
open Go.RowKit
open Dk (File Disk)

theorem rnew_ref (F : Nat → Prop) (cap : Nat) (w : World) (h1 : cap ≤ 1099511627776) (hF : ∀ g, F g → g < w.heap.size) :
    Calls Try.prog 33 #[.int .i64 (cap : Int)] w fun e w' => ∃ q, e = .returned (.tuple #[.pointer (some ⟨q, 0, none⟩), .int .i64 0]) ∧ Ref F w' q ⟨cap, [], 0, none, false⟩ ∧ w.heap.size ≤ q ∧ Below w.heap.size w w' := by
  refine (rnew_raw (cap : Int) w (by omega) (by omega)).mono ?_
  rintro e w' ⟨rfl, rfl⟩
  have hb : Below w.heap.size w (w.alloc (.cells #[.int .i64 (cap : Int), .slice none 0 0, .int .i64 0, .int .i64 (-1), .bool false] 41)) := (Below.refl _ _).alloc (Nat.le_refl _) _
  exact ⟨w.heap.size, rfl, ⟨none, 0, 0, [], heap_alloc_new w _, ⟨fun _ _ => RSrc.empty (fun _ => rfl), rfl, rfl⟩, Dk.new_good cap, h1, (fun e => by have := hF _ e; omega), (fun g hg => Nat.lt_of_lt_of_le (hF g hg) hb.size), (fun k e => by cases e)⟩, Nat.le_refl _, hb⟩
theorem rcut_ref (F : Nat → Prop) (q : Nat) (r : Disk) (z : Int) (w : World) (h : Ref F w q r) (hz : z < 9223372036854775808) :
    Calls Try.prog 45 #[.pointer (some ⟨q, 0, none⟩), .int .i64 z] w fun e w' => RefPost F w q (Dk.cut r z) e w' := by
  obtain ⟨ao, n, c, es, h⟩ := h
  by_cases hn : z < 0
  · refine (rcut_neg z hn q w).mono ?_
    rintro e w' ⟨rfl, hb⟩
    have e1 : Dk.cut r z = (1, r) := by unfold Dk.cut; rw [if_pos hn]
    rw [e1]
    exact ⟨rfl, h.stay hb⟩
  · refine (rcut_any z hn q _ _ _ _ _ w h.box).mono ?_
    rintro e w' ⟨rfl, hb, hk⟩
    cases hd : r.dark with
    | true =>
      have e1 : Dk.cut r z = (0, r) := by unfold Dk.cut; rw [if_neg hn, hd]; rfl
      rw [e1]
      rw [hd] at hb
      refine ⟨rfl, ⟨ao, n, c, es, h.turn hk ?_ rfl h.good rfl h.leftb⟩, hk⟩
      rw [hd]
      exact hb
    | false =>
      have e1 : Dk.cut r z = (0, { r with left := some z.toNat }) := by unfold Dk.cut; rw [if_neg hn, hd]; rfl
      have hg := Dk.cut_good z h.good
      rw [e1] at hg ⊢
      rw [hd] at hb
      refine ⟨rfl, ⟨ao, n, c, es, h.turn hk ?_ rfl hg rfl (fun k e => by cases e; omega)⟩, hk⟩
      rw [show ({ r with left := some z.toNat } : Disk).dark = r.dark from rfl, hd, show leftOf ({ r with left := some z.toNat } : Disk).left = z from by show ((z.toNat : Nat) : Int) = z; omega]
      exact hb

set_option maxHeartbeats 1000000 in
set_option maxRecDepth 100000 in
theorem rread_any (F : Nat → Prop) (q : Nat) (r : Disk) (n : List UInt8) (w : World) (h : Ref F w q r) :
    Calls Try.prog 47 #[.pointer (some ⟨q, 0, none⟩), .string ⟨n.toArray⟩] w fun e w' => ∃ v, e = .returned (.tuple #[v, .int .i64 ((readOf r.files n).1 : Int)]) ∧ New w w' v (readOf r.files n).2.length (readOf r.files n).2 := by
  obtain ⟨ao, nn, c, es, h⟩ := h
  have HM := keep h
  clear h
  cases hn : Dk.named n with
  | false =>
    have e1 : readOf r.files n = (1, []) := by unfold readOf; rw [hn]; rfl
    rw [e1]
    go_enter Try.func47, Try.ntmps47
    go_wp2_with fail
    refine (rnamed_any n _).mono ?_
    rintro e w1 ⟨rfl, hb⟩
    have b1 := keep hb
    clear hb e1
    rw [hn]
    go_wp2
    go_ret2
    exact ⟨_, rfl, World.ownsRow_nil _ _ _ _, b1.out⟩
  | true =>
    cases hx : Dk.look r.files n with
    | none =>
      have e1 : readOf r.files n = (3, []) := by unfold readOf; rw [hn, hx]; rfl
      rw [e1]
      have HX := keep hx
      clear hx e1
      go_enter Try.func47, Try.ntmps47
      go_wp2_with fail
      refine (rnamed_any n _).mono ?_
      rintro e w1 ⟨rfl, hb⟩
      have b1 := keep hb
      clear hb
      rw [hn]
      go_wp2_with fail
      refine (rat_any _ q ao nn c es r.files n _ (HM.out.below b1.out).box.c1 (HM.out.below b1.out).rows HM.out.few).mono ?_
      rintro e w3 ⟨he, hb⟩
      have b3 := keep (b1.out.trans (hb.mono b1.out.size))
      clear hb
      rw [HX.out] at he
      obtain rfl : e = .returned (.int .i64 (-1)) := by
        rcases he with ⟨_, h1⟩ | ⟨i, f, _, h1, _⟩
        · exact h1
        · cases h1
      clear he
      go_wp2
      go_ret2
      exact ⟨_, rfl, World.ownsRow_nil _ _ _ _, b3.out⟩
    | some f =>
      obtain ⟨nm, sf, fb⟩ := f
      have e1 : readOf r.files n = (0, fb) := by unfold readOf; rw [hn, hx]; rfl
      rw [e1]
      have HX := keep hx
      clear hx e1
      go_enter Try.func47, Try.ntmps47
      go_wp2_with fail
      refine (rnamed_any n _).mono ?_
      rintro e w1 ⟨rfl, hb⟩
      have b1 := keep hb
      clear hb
      rw [hn]
      go_wp2_with fail
      refine (rat_any _ q ao nn c es r.files n _ (HM.out.below b1.out).box.c1 (HM.out.below b1.out).rows HM.out.few).mono ?_
      rintro e w3 ⟨he, hb⟩
      have b3 := keep (b1.out.trans (hb.mono b1.out.size))
      clear hb
      rw [HX.out] at he
      obtain ⟨i, hi, rfl⟩ : ∃ i : Nat, r.files[i]? = some ⟨nm, sf, fb⟩ ∧ e = .returned (.int .i64 (i : Int)) := by
        rcases he with ⟨h1, _⟩ | ⟨i, f, h1, h2, h3⟩
        · cases h1
        · cases h2
          exact ⟨i, h1, h3⟩
      have i0 : (0 : Int) ≤ (i : Int) := by omega
      have i1 : i < nn := by
        have h1 := (List.getElem?_eq_some_iff.1 hi).1
        have h2 := HM.out.rows.len
        omega
      have i2 : (i : Int) < (nn : Int) := by omega
      have R3 := keep (HM.out.below b3.out)
      obtain ⟨bb, off, hao, hbl, hat⟩ := R3.out.rows.at_ (by omega)
      obtain ⟨p, k, hek, hc0, hc1, hc2⟩ := hat i ⟨nm, sf, fb⟩ hi
      have hhe := keep ((R3.out.rows.held (List.mem_of_getElem? hek)).here)
      have cq := R3.out.box.c1
      rw [hao] at cq
      have hfl : fb.length ≤ 1099511627776 := by
        have h1 := used_mem (List.mem_of_getElem? hi)
        have h2 := HM.out.good.room
        have h3 := HM.out.capb
        simp only [Dk.cost] at h1
        omega
      have ba : ∀ o : Obj, Below w3.heap.size w3 (w3.alloc o) := fun o => (Below.refl _ _).alloc (Nat.le_refl _) o
      have cqo := fun o : Obj => below_cell (ba o) cq
      have hco := fun o : Obj => below_cell (ba o) hc2
      have S3 := keep (hhe.out.below (ba (.cells #[] 5)))
      obtain ⟨i00, hi0, hz0, hz1, hz2⟩ := info_parts info5
      clear he hat hek hi hao cq hc0 hc1 hc2 ba
      go_wp2_with (at_builtin; refine wpList_append_src rfl _ _ 35 rfl w3.heap.size i00 _ Try.underlying35 hi0 hz0 hz1 hz2 rfl _ 0 [] rfl (World.ownsRow_made w3 #[] 0 (Nat.le_refl _) (by unfold maxLen; omega) rfl) _ fb.length k fb rfl S3.out (by omega) (by simp) ?_; intro v6 w6 ho6 hg6; simp only [Nat.zero_add, List.nil_append] at ho6; have H6 := keep ho6; have G6 := keep hg6; clear ho6 hg6)
      go_ret2
      have bb6 : Below w3.heap.size w3 w6 := ((Below.refl _ _).alloc (Nat.le_refl _) _).grown G6.out (by simp) (fun g e => by cases e; exact Nat.le_refl _)
      exact ⟨_, rfl, New.after b3.out ⟨H6.out, bb6⟩⟩
/-- A row of files that a call has begun, bytes and all. -/
structure Fresh (t : TypeId) (w wr : World) (v : Value) (fs : List File) (es : List Ent) : Prop where
  own : wr.ownsRow w.heap.size t 3 v fs.length (rv fileKind es)
  bytes : ∀ e ∈ es, Bytes' w.heap.size wr e
  same : es.map plainE = fs.map plainF
  bel : Below w.heap.size w wr
theorem Fresh.nil (t : TypeId) (w wr : World) (h : Below w.heap.size w wr) : Fresh t w wr (.slice none 0 0) [] [] := ⟨World.ownsRow_nil _ _ _ _, (fun _ h => by cases h), rfl, h⟩
theorem Fresh.more {t : TypeId} {w wr w' w5 : World} {v v5 : Value} {fs : List File} {es : List Ent} (ht : ¬ t = 5) (h : Fresh t w wr v fs es) (hb : Below wr.heap.size wr w') {f : File} {e : Ent} (he : Bytes' w.heap.size w' e) (hp : plainE e = plainF f)
    (ho : w5.ownsRow w.heap.size t 3 v5 (fs.length + 1) (rv fileKind (es ++ [e]))) (hg : w'.grownBy w5 v.ownBlock) : Fresh t w w5 v5 (fs ++ [f]) (es ++ [e]) :=
  ⟨by rw [List.length_append]; exact ho, row_more ht h.own h.bytes hb he hg, by rw [List.map_append, List.map_append, h.same, List.map_cons, hp]; rfl,
    (h.bel.trans (hb.mono h.bel.size)).grown hg (Nat.le_trans h.bel.size hb.size) (fun g hg => (h.own.lt g hg).1)⟩
theorem Fresh.rows {t : TypeId} {w wr : World} {v : Value} {fs : List File} {es : List Ent} (h : Fresh t w wr v fs es) : ∃ ao c, v = .slice ao fs.length c ∧ c ≤ maxLen ∧ Rows4 (Old w.heap.size) wr ao fs.length c es fs := by
  obtain ⟨ao, c, hv, hc, hs⟩ := files_steady h.own (fun e he => (h.bytes e he).steady)
  exact ⟨ao, c, hv, hc, hs, h.same, rfl⟩

set_option maxHeartbeats 1000000 in
set_option maxRecDepth 100000 in
theorem rdump_any (F : Nat → Prop) (q : Nat) (r : Disk) (w : World) (h : Ref F w q r) :
    Calls Try.prog 22 #[.pointer (some ⟨q, 0, none⟩)] w fun e w' => ∃ ao c es, e = .returned (.slice ao r.files.length c) ∧ c ≤ maxLen ∧ Rows4 (Old w.heap.size) w' ao r.files.length c es r.files ∧ Below w.heap.size w w' := by
  obtain ⟨ao, nn, c, es, h⟩ := h
  have HM := keep h
  have c1 := h.box.c1
  have HLEN := keep h.rows.len
  have hnn := h.few
  obtain ⟨i0, hi, hz0, hz1, hz2⟩ := info_parts3 infoR
  obtain ⟨i00, hi0, hy0, hy1, hy2⟩ := info_parts info5
  clear h
  go_enter Try.func22, Try.ntmps22
  go_wp2_with fail
  go_loopw [3, 4] (fun v i wr => ∃ (t : Nat) (es' : List Ent), t ≤ nn ∧ i = .int .i64 (t : Int) ∧ Hid (Fresh 76 w wr v (r.files.take t) es')) (fun _ i _ => nn - (intOf i).toNat)
  case atStart => exact ⟨0, [], Nat.zero_le _, rfl, Fresh.nil _ w w (Below.refl _ _)⟩
  case round =>
    obtain ⟨t, es', ht, rfl, hg⟩ := hrel
    have cr := below_cell hg.out.bel c1
    rcases Nat.lt_or_ge t nn with hlt | hge
    · obtain ⟨f, hf⟩ : ∃ f, r.files[t]? = some f := ⟨r.files[t]'(by have := HLEN.out; omega), List.getElem?_eq_getElem _⟩
      have Rr := keep (HM.out.below hg.out.bel)
      obtain ⟨b, off, hao, hbl, hat⟩ := Rr.out.rows.at_ (by omega)
      obtain ⟨p, k, hek, hc0, hc1, hc2⟩ := hat t f hf
      have hhe := keep ((Rr.out.rows.held (List.mem_of_getElem? hek)).here)
      rw [hao] at cr
      have j0 : (0 : Int) ≤ (t : Int) := by omega
      have j1 : (t : Int) < (nn : Int) := by omega
      have hst := keep (show r.files.take (t + 1) = r.files.take t ++ [f] by rw [List.take_add_one, hf]; rfl)
      have hfl : f.bytes.length ≤ 1099511627776 := by
        have h1 := used_mem (List.mem_of_getElem? hf)
        have h2 := HM.out.good.room
        have h3 := HM.out.capb
        simp only [Dk.cost] at h1
        omega
      obtain ⟨fnm, fsf, fbs⟩ := f
      have hln : (r.files.take t).length ≤ 1099511627776 := by rw [List.length_take]; omega
      clear hat hf hek hao
      have S3 : Hid (Src ((wr.alloc (.cells #[] 5)).drew) p fbs.length k fbs) := hhe.out.below (((Below.refl _ _).alloc (Nat.le_refl _) _).trans (Below.refl _ _).drew)
      have M3 : Hid (((wr.alloc (.cells #[] 5)).drew).ownsRow wr.heap.size 5 1 (.slice (some ⟨wr.heap.size, 0, none⟩) 0 0) 0 (bv [])) := World.ownsRow_made wr #[] 0 (Nat.le_refl _) (by unfold maxLen; omega) rfl
      have hqlt : q < wr.heap.size := Rr.out.box.lt
      have KEY : Hid (∀ v6 w6, w6.ownsRow wr.heap.size 5 1 v6 (0 + fbs.length) (bv ([] ++ fbs)) → ((wr.alloc (.cells #[] 5)).drew).grownBy w6 (some wr.heap.size) → ∃ ao6 c6, v6 = .slice ao6 fbs.length c6 ∧ (w6.cell? ⟨q, 1, none⟩ = some (.slice (some ⟨b, off, none⟩) nn c) ∧ w6.cell? ⟨b, off + t * 3, none⟩ = some (.string ⟨fnm.toArray⟩) ∧ w6.cell? ⟨b, off + t * 3 + 1, none⟩ = some (.int .i64 (fsf : Int)) ∧ w6.cell? ⟨b, off + t * 3 + 2, none⟩ = some (.slice p fbs.length k)) ∧
          Hid (Below wr.heap.size wr (w6.alloc (.cells #[.string ⟨fnm.toArray⟩, .int .i64 (fsf : Int), .slice ao6 fbs.length c6] 76))) ∧ Hid (Bytes' w.heap.size (w6.alloc (.cells #[.string ⟨fnm.toArray⟩, .int .i64 (fsf : Int), .slice ao6 fbs.length c6] 76)) (⟨fnm, (fsf : Int), ao6, c6, fbs⟩ : Ent)) ∧ Hid ((w6.alloc (.cells #[.string ⟨fnm.toArray⟩, .int .i64 (fsf : Int), .slice ao6 fbs.length c6] 76)).ownsRow w.heap.size 76 3 u3 (r.files.take t).length (rv fileKind es')) ∧ Hid (w.heap.size ≤ (w6.alloc (.cells #[.string ⟨fnm.toArray⟩, .int .i64 (fsf : Int), .slice ao6 fbs.length c6] 76)).heap.size)) := by
        intro v6 w6 h1 h2
        simp only [Nat.zero_add, List.nil_append] at h1
        obtain ⟨ao6, c6, rfl⟩ := own_slice h1
        have b6 : Below wr.heap.size wr w6 := (((Below.refl _ _).alloc (Nat.le_refl _) _).trans (Below.refl _ _).drew).grown h2 (by show wr.heap.size ≤ (wr.alloc _).heap.size; simp) (fun g e => by cases e; exact Nat.le_refl _)
        have b7 : Below wr.heap.size wr (w6.alloc (.cells #[.string ⟨fnm.toArray⟩, .int .i64 (fsf : Int), .slice ao6 fbs.length c6] 76)) := b6.alloc b6.size _
        refine ⟨ao6, c6, rfl, ⟨below_cell b6 cr, below_cell b6 hc0, below_cell b6 hc1, below_cell b6 hc2⟩, b7, ?_, own_block hg.out.own (fun g hgg => b7.block g (own_size hg.out.own hgg)), Nat.le_trans hg.out.bel.size b7.size⟩
        have h3 : w6.ownsRow w.heap.size 5 1 (.slice ao6 fbs.length c6) fbs.length (bv fbs) := own_base h1 (fun g hgg => Nat.le_trans hg.out.bel.size (h1.lt g hgg).1)
        exact own_block h3 (fun g hgg => Below.heap_alloc _ _ g (own_size h3 hgg))
      have hn3 : ∀ g, g = q ∨ g = b → some g ≠ u3.ownBlock := fun g hgg e => by
        obtain ⟨cur, hcur⟩ := own_tag hg.out.own e.symm
        have h0 := (hg.out.own.lt g e.symm).1
        have hbw : b < w.heap.size := by
          obtain ⟨bb', off', e', h1, _⟩ := HM.out.rows.at_ (by omega)
          obtain ⟨b2, off2, e2, _⟩ := Rr.out.rows.at_ (by omega)
          rw [e'] at e2
          have := Rr.out.box.c1
          rw [e'] at this
          rw [this] at cr
          cases cr
          exact h1
        have hqw : q < w.heap.size := HM.out.box.lt
        rcases hgg with h1 | h1
        · omega
        · omega
      go_wp2_with fail
      go_region_held3 (fun w' => w'.cell? ⟨q, 1, none⟩ = some (.slice (some ⟨b, off, none⟩) nn c) ∧ w'.cell? ⟨b, off + t * 3, none⟩ = some (.string ⟨fnm.toArray⟩) ∧ w'.cell? ⟨b, off + t * 3 + 1, none⟩ = some (.int .i64 (fsf : Int)) ∧ w'.cell? ⟨b, off + t * 3 + 2, none⟩ = some (.slice p fbs.length k))
        (first | go_keep | exact q0 | exact ⟨qa q0.1, qa q0.2.1, qa q0.2.2.1, qa q0.2.2.2⟩ | exact ⟨rr1 (.inl rfl) (qa q0.1), rr1 (.inr rfl) (qa q0.2.1), rr1 (.inr rfl) (qa q0.2.2.1), rr1 (.inr rfl) (qa q0.2.2.2)⟩)
        (first
          | (refine step_append_src (by rfl) _ _ 35 (by rfl) wr.heap.size i00 _ Try.underlying35 hi0 hy0 hy1 hy2 (by rfl) _ 0 [] (by rfl) M3.out _ fbs.length k fbs (by rfl) S3.out (by omega) (by show wr.heap.size ≤ (wr.alloc _).heap.size; simp) ?_; intro v6 w6 ho6 hg6; obtain ⟨ao6, c6, rfl, q0, q2, q3, q4, q5⟩ := KEY.out v6 w6 ho6 hg6; have qa : ∀ {pp : Addr} {vv : Value}, w6.cell? pp = some vv → (w6.alloc (.cells #[.string ⟨fnm.toArray⟩, .int .i64 (fsf : Int), .slice ao6 fbs.length c6] 76)).cell? pp = some vv := fun hh => below_cell ((Below.refl _ _).alloc (Nat.le_refl _) _) hh; clear ho6 hg6)
          | (refine step_append_rec fileKind_ok (by rfl) _ _ 22 76 (by rfl) w.heap.size i0 _ 48 Try.underlying22 hi hz0 hz1 hz2 (by rfl) u3 _ es' (by rfl) q4.out _ 1 (⟨fnm, (fsf : Int), ao6, c6, fbs⟩ : Ent) (by rfl) (rec_cells (k := fileKind) _ _ (⟨fnm, (fsf : Int), ao6, c6, fbs⟩ : Ent)) (by unfold maxLen; omega) (by omega) q5.out ?_; intro v7 w7 ho7 hg7; have rr1 : ∀ {g : Nat} {o : Nat} {vv : Value}, (g = q ∨ g = b) → (w6.alloc (.cells #[.string ⟨fnm.toArray⟩, .int .i64 (fsf : Int), .slice ao6 fbs.length c6] 76)).cell? ⟨g, o, none⟩ = some vv → w7.cell? ⟨g, o, none⟩ = some vv := fun hgg hh => hg7.cell hh (hn3 _ hgg); have HO7 := keep ho7; have HG7 := keep hg7; clear ho7 hg7))
      have gn : Hid (Fresh 76 w w7 v7 (r.files.take (t + 1)) (es' ++ [(⟨fnm, (fsf : Int), ao6, c6, fbs⟩ : Ent)])) := by
        have h1 := hg.out.more (by decide) q2.out q3.out (f := ⟨fnm, fsf, fbs⟩) rfl HO7.out HG7.out
        rw [← hst.out] at h1
        exact h1
      clear rr1 qa q0
      go_wp2
      go_roundw
      case rel => exact ⟨t + 1, es' ++ [(⟨fnm, (fsf : Int), ao6, c6, fbs⟩ : Ent)], by omega, by first | rfl | go_num, gn⟩
      case measure => simp [intOf]; omega
    · obtain rfl : t = nn := by omega
      have hall := hg.out
      rw [List.take_of_length_le (by have := HLEN.out; omega)] at hall
      obtain ⟨ao5, c5, rfl, hc5, hr5⟩ := hall.rows
      have H5 := keep hr5
      have B5 := keep hall.bel
      clear hall hr5
      go_wp2
      go_ret
      exact ⟨ao5, c5, es', rfl, hc5, H5.out, B5.out⟩
end Go.Proofs.Ytipkacaekbckhaa
