/- The walks of SameFiles and of theirs. -/
import Derived.Test.YtfjhfecjbheipaaR9
namespace Go.Proofs.Ytfjhfecjbheipaa
open Go.RowKit
open Dk (File Disk)

theorem plain_inj {a b : File} : plainF a = plainF b ↔ a = b := by
  obtain ⟨n1, s1, b1⟩ := a
  obtain ⟨n2, s2, b2⟩ := b
  simp only [plainF, Prod.mk.injEq, File.mk.injEq]
  constructor
  · rintro ⟨h1, h2, h3⟩; exact ⟨h1, by omega, h3⟩
  · rintro ⟨h1, h2, h3⟩; exact ⟨h1, by omega, h3⟩

set_option maxHeartbeats 1000000 in
set_option maxRecDepth 100000 in
theorem theirs_any (U : Nat → Prop) (ao : Option Addr) (n c : Nat) (es : List Ent) (fs : List File) (w : World) (h : Rows4 U w ao n c es fs) (hn : n ≤ 1099511627776) (hU : ∀ g, U g → g < w.heap.size) :
    Calls Try.prog 15 #[.slice ao n c] w fun e w' => ∃ ao' c' es', e = .returned (.slice ao' n c') ∧ Rows4 U w' ao' n c' es' fs ∧ Below w.heap.size w w' := by
  have HR := keep h
  have HLEN := keep h.len
  obtain ⟨i0, hi, hz0, hz1, hz2⟩ := info_parts3 infoR
  clear h
  go_enter Try.func15, Try.ntmps15
  go_wp2_with fail
  go_loopw [3, 4] (fun v i wr => ∃ (t : Nat) (es' : List Ent), t ≤ n ∧ i = .int .i64 (t : Int) ∧ Hid (Begun U w wr v (fs.take t) es')) (fun _ i _ => n - (intOf i).toNat)
  case atStart => exact ⟨0, [], Nat.zero_le _, rfl, Begun.nil U w w (Below.refl _ _)⟩
  case round =>
    obtain ⟨t, es', ht, rfl, hg⟩ := hrel
    rcases Nat.lt_or_ge t n with hlt | hge
    · obtain ⟨f, hf⟩ : ∃ f, fs[t]? = some f := ⟨fs[t]'(by have := HLEN.out; omega), List.getElem?_eq_getElem _⟩
      obtain ⟨b, off, rfl, hbl, hat⟩ := HR.out.at_ (by omega)
      obtain ⟨p, k, hek, hw0, hw1, hw2⟩ := hat t f hf
      have hhe := keep (HR.out.held (List.mem_of_getElem? hek))
      have hc0 := below_cell hg.out.bel hw0
      have hc1 := below_cell hg.out.bel hw1
      have hc2 := below_cell hg.out.bel hw2
      have j0 : (0 : Int) ≤ (t : Int) := by omega
      have j1 : (t : Int) < (n : Int) := by omega
      have hst := keep (show fs.take (t + 1) = fs.take t ++ [f] by rw [List.take_add_one, hf]; rfl)
      have hln : (fs.take t).length ≤ 1099511627776 := by rw [List.length_take]; omega
      obtain ⟨fnm, fsf, fbs⟩ := f
      clear hat hf hek hw0 hw1 hw2
      have b4 := keep (((Below.refl wr.heap.size wr).drew).alloc (w := wr.drew) (Nat.le_refl _) (.cells #[.string ⟨fnm.toArray⟩, .int .i64 (fsf : Int), .slice p fbs.length k] 71))
      have ow := keep (own_block (w' := (wr.alloc (.cells #[.string ⟨fnm.toArray⟩, .int .i64 (fsf : Int), .slice p fbs.length k] 71)).drew) hg.out.own (fun g hgg => b4.out.block g (own_size hg.out.own hgg)))
      have sz := keep (show w.heap.size ≤ ((wr.alloc (.cells #[.string ⟨fnm.toArray⟩, .int .i64 (fsf : Int), .slice p fbs.length k] 71)).drew).heap.size from Nat.le_trans hg.out.bel.size b4.out.size)
      have qa : ∀ {pp : Addr} {vv : Value}, wr.cell? pp = some vv → ((wr.alloc (.cells #[.string ⟨fnm.toArray⟩, .int .i64 (fsf : Int), .slice p fbs.length k] 71)).drew).cell? pp = some vv := fun hh => below_cell (((Below.refl wr.heap.size wr).alloc (Nat.le_refl _) _).drew) hh
      have hn3 : some b ≠ u3.ownBlock := fun e => by have := (hg.out.own.lt b e.symm).1; omega
      go_wp2_with fail
      go_region_held3 (fun w' => w'.cell? ⟨b, off + t * 3, none⟩ = some (.string ⟨fnm.toArray⟩) ∧ w'.cell? ⟨b, off + t * 3 + 1, none⟩ = some (.int .i64 (fsf : Int)) ∧ w'.cell? ⟨b, off + t * 3 + 2, none⟩ = some (.slice p fbs.length k))
        (first | go_keep | exact ⟨qa hc0, qa hc1, qa hc2⟩ | exact ⟨hc0, hc1, hc2⟩ | exact ⟨rr1 (qa hc0), rr1 (qa hc1), rr1 (qa hc2)⟩)
        (first | (refine step_append_rec fileKind_ok (by rfl) _ _ 22 71 (by rfl) w.heap.size i0 _ 48 Try.underlying22 hi hz0 hz1 hz2 (by rfl) u3 _ es' (by rfl) ow.out _ 1 (⟨fnm, (fsf : Int), p, k, fbs⟩ : Ent) (by rfl) (rec_cells (k := fileKind) wr 71 (⟨fnm, (fsf : Int), p, k, fbs⟩ : Ent)) (by unfold maxLen; omega) (by omega) sz.out ?_; intro v7 w7 ho7 hg7; have rr1 : ∀ {o : Nat} {vv : Value}, ((wr.alloc (.cells #[.string ⟨fnm.toArray⟩, .int .i64 (fsf : Int), .slice p fbs.length k] 71)).drew).cell? ⟨b, o, none⟩ = some vv → w7.cell? ⟨b, o, none⟩ = some vv := fun hh => hg7.cell hh hn3; have HO7 := keep ho7; have HG7 := keep hg7; clear ho7 hg7))
      have gn : Hid (Begun U w w7 v7 (fs.take (t + 1)) (es' ++ [(⟨fnm, (fsf : Int), p, k, fbs⟩ : Ent)])) := by
        have h1 := hg.out.more b4.out hhe.out (f := ⟨fnm, fsf, fbs⟩) rfl HO7.out HG7.out
        rw [← hst.out] at h1
        exact h1
      clear rr1 qa
      go_wp2
      go_roundw
      case rel => exact ⟨t + 1, es' ++ [(⟨fnm, (fsf : Int), p, k, fbs⟩ : Ent)], by omega, by first | rfl | go_num, gn⟩
      case measure => simp [intOf]; omega
    · obtain rfl : t = n := by omega
      have hall := hg.out
      rw [List.take_of_length_le (by have := HLEN.out; omega)] at hall
      obtain ⟨ao5, c5, rfl, hr5⟩ := hall.rows hU (Kept.refl _ wr)
      have H5 := keep hr5
      have B5 := keep hall.bel
      clear hall hr5
      go_wp2
      go_ret
      have e := HLEN.out
      rw [← e] at H5
      exact ⟨ao5, c5, es', by rw [e]; rfl, H5.out, B5.out⟩

set_option maxHeartbeats 1000000 in
set_option maxRecDepth 100000 in
theorem same_files (ao : Option Addr) (n c : Nat) (es : List Ent) (fs : List File) (U : Nat → Prop) (ao2 : Option Addr) (n2 c2 : Nat) (es2 : List Ent) (fs2 : List File) (U2 : Nat → Prop) (w : World) (h : Rows4 U w ao n c es fs) (h2 : Rows4 U2 w ao2 n2 c2 es2 fs2) (hn : n ≤ 1099511627776) :
    Calls Try.prog 14 #[.slice ao n c, .slice ao2 n2 c2] w fun e w' => (∃ x : Bool, e = .returned (.bool x) ∧ (x = true ↔ fs = fs2)) ∧ Below w.heap.size w w' := by
  have HR := keep h
  have HR2 := keep h2
  have HLEN := keep h.len
  have HLEN2 := keep h2.len
  clear h h2
  by_cases hnn : n = n2
  · subst hnn
    go_enter Try.func14, Try.ntmps14
    go_wp2_with fail
    go_loopw [5] (fun i wr => ∃ (t : Nat), t ≤ n ∧ i = .int .i64 (t : Int) ∧ Hid (fs.take t = fs2.take t) ∧ Hid (Below w.heap.size w wr)) (fun i _ => n - (intOf i).toNat)
    case atStart => exact ⟨0, Nat.zero_le _, rfl, by exact rfl, Below.refl _ _⟩
    case round =>
      obtain ⟨t, ht, rfl, hd, hb⟩ := hrel
      rcases Nat.lt_or_ge t n with hlt | hge
      · obtain ⟨f, hf⟩ : ∃ f, fs[t]? = some f := ⟨fs[t]'(by have := HLEN.out; omega), List.getElem?_eq_getElem _⟩
        obtain ⟨g, hg⟩ : ∃ f, fs2[t]? = some f := ⟨fs2[t]'(by have := HLEN2.out; omega), List.getElem?_eq_getElem _⟩
        have HRr := HR.out.below hb.out
        have HRr2 := HR2.out.below hb.out
        obtain ⟨b, off, rfl, hbl, hat⟩ := HRr.at_ (by omega)
        obtain ⟨p, k, hek, hc0, hc1, hc2⟩ := hat t f hf
        obtain ⟨b2, off2, rfl, hbl2, hat2⟩ := HRr2.at_ (by omega)
        obtain ⟨p2, k2, hek2, hd0, hd1, hd2⟩ := hat2 t g hg
        have s1 := conv_src ((HRr.held (List.mem_of_getElem? hek)).here : Src wr p f.bytes.length k f.bytes)
        have s2 := conv_src ((HRr2.held (List.mem_of_getElem? hek2)).here : Src wr p2 g.bytes.length k2 g.bytes)
        have j0 : (0 : Int) ≤ (t : Int) := by omega
        have j1 : (t : Int) < (n : Int) := by omega
        have HF := keep hf
        have HG := keep hg
        obtain ⟨fnm, fsf, fbs⟩ := f
        obtain ⟨gnm, gsf, gbs⟩ := g
        have s1' := fun m => conv_src (((HRr.held (List.mem_of_getElem? hek)).here : Src wr p fbs.length k fbs).below (below_drewN wr.heap.size wr m))
        have s2' := fun m => conv_src (((HRr2.held (List.mem_of_getElem? hek2)).here : Src wr p2 gbs.length k2 gbs).below (below_drewN wr.heap.size wr m))
        clear hat hat2 hf hg hek hek2 HRr HRr2 s1 s2
        by_cases e1 : fnm = gnm
        · have x1 : (fnm == gnm) = true := by simpa using e1
          by_cases e2 : fsf = gsf
          · have x2 : ((fsf : Int) != (gsf : Int)) = false := by rw [bne_eq_false_iff_eq]; omega
            by_cases e3 : fbs = gbs
            · have x3 : (fbs == gbs) = true := by simpa using e3
              have hnx : Hid (fs.take (t + 1) = fs2.take (t + 1)) := by
                show _ = _
                rw [List.take_add_one, List.take_add_one, hd.out, HF.out, HG.out, e1, e2, e3]
              clear e1 e2 e3
              go_wp2_with fail
              go_quiet (fail)
              have hb2 : Hid (Below w.heap.size w (wr.drewN nq)) := hb.out.trans (below_drewN _ _ _)
              go_wp2
              go_roundw
              case rel => exact ⟨t + 1, by omega, by first | rfl | go_num, hnx, hb2⟩
              case measure => simp [intOf]; omega
            · have x3 : (fbs == gbs) = false := by simpa using e3
              have hno : Hid (¬ fs = fs2) := fun e => by
                have h1 := HF.out
                rw [e, HG.out] at h1
                simp only [Option.some.injEq, File.mk.injEq] at h1
                exact e3 h1.2.2.symm
              go_wp2_with fail
              go_quiet (fail)
              have hb2 : Hid (Below w.heap.size w (wr.drewN nq)) := hb.out.trans (below_drewN _ _ _)
              go_wp2
              go_ret
              exact ⟨⟨false, rfl, by simp [hno.out]⟩, hb2.out⟩
          · have x2 : ((fsf : Int) != (gsf : Int)) = true := by rw [bne_iff_ne]; omega
            have hno : Hid (¬ fs = fs2) := fun e => by
              have h1 := HF.out
              rw [e, HG.out] at h1
              simp only [Option.some.injEq, File.mk.injEq] at h1
              exact e2 h1.2.1.symm
            go_wp2_with fail
            go_quiet (fail)
            have hb2 : Hid (Below w.heap.size w (wr.drewN nq)) := hb.out.trans (below_drewN _ _ _)
            go_wp2
            go_ret
            exact ⟨⟨false, rfl, by simp [hno.out]⟩, hb2.out⟩
        · have x1 : (fnm == gnm) = false := by simpa using e1
          have hno : Hid (¬ fs = fs2) := fun e => by
            have h1 := HF.out
            rw [e, HG.out] at h1
            simp only [Option.some.injEq, File.mk.injEq] at h1
            exact e1 h1.1.symm
          go_wp2_with fail
          go_quiet (fail)
          have hb2 : Hid (Below w.heap.size w (wr.drewN nq)) := hb.out.trans (below_drewN _ _ _)
          go_wp2
          go_ret
          exact ⟨⟨false, rfl, by simp [hno.out]⟩, hb2.out⟩
      · obtain rfl : t = n := by omega
        have hall : Hid (fs = fs2) := by
          have := hd.out
          rwa [List.take_of_length_le (by have := HLEN.out; omega), List.take_of_length_le (by have := HLEN2.out; omega)] at this
        go_wp2
        go_ret
        exact ⟨⟨true, rfl, by simp [hall.out]⟩, hb.out⟩
  · have e0 : ((n : Int) == (n2 : Int)) = false := by rw [beq_eq_false_iff_ne]; omega
    have hno : Hid (¬ fs = fs2) := fun e => by
      have h1 := HLEN.out
      have h2 := HLEN2.out
      rw [e] at h1
      omega
    go_enter Try.func14, Try.ntmps14
    go_wp2
    go_ret
    exact ⟨⟨false, rfl, by simp [hno.out]⟩, Below.refl _ _⟩
end Go.Proofs.Ytfjhfecjbheipaa
