/- The walk of disk's Crash. -/
import Derived.Test.YtfjhfecjbheipaaPe
namespace Go.Proofs.Ytfjhfecjbheipaa
open Go.RowKit
open Dk (File Disk)

theorem up_wrap (z : Int) : IntKind.u64.wrap z = ((up z : Nat) : Int) := by
  rw [IntKind.wrap_u64]
  exact up_eq z

set_option maxHeartbeats 1000000 in
set_option maxRecDepth 100000 in
theorem crash_mem (S : Nat → Prop) (b : Nat) (d : Disk) (ao2 : Option Addr) (n2 c2 : Nat) (zs : List Int) (w : World) (h : Mem S w b d) (hz : Steady (Go.Proofs.Ytfjhfecjbheipaa.mine S b) w fun w => RSrc intKind w ao2 n2 c2 zs) (hn2 : n2 ≤ maxLen) :
    Calls Try.prog 21 #[.pointer (some ⟨b, 0, none⟩), .slice ao2 n2 c2] w fun e w' => RawPost S w b (0, Dk.crash d (zs.map up)) e w' := by
  obtain ⟨m, l, left, h⟩ := h
  have HM := keep h
  have HZ := keep hz
  have c0 := h.box.c0
  clear h hz
  unfold maxLen at hn2
  go_enter Try.func21, Try.ntmps21
  go_wp2_with fail
  refine (made_box b m _ c0).mono ?_
  rintro e w0 ⟨rfl, rfl⟩
  go_wp2_with fail
  refine (names_mem S b m l left d _ HM.out).mono ?_
  rintro e w1 ⟨ao, c, rfl, ho, hr, hb⟩
  have HO := keep ho
  have HR := keep hr
  have HB := keep hb
  obtain ⟨N, hN⟩ : ∃ N, d.files.length = N := ⟨_, rfl⟩
  have hNs : N ≤ 1099511627776 := by
    have h1 := HM.out.few.2
    have h2 := HM.out.rel.length
    omega
  rw [hN] at HO HR ⊢
  have HN := keep hN
  clear ho hr hb hN c0
  go_wp2_with fail
  have HS := keep (own_steady (U := Old w0.heap.size) HO.out (fun g hg => hg))
  have hmo : Hid (∀ g, Go.Proofs.Ytfjhfecjbheipaa.mine S b g → Old w0.heap.size g) := fun g hg => by
    rcases hg with hg | hg
    · exact HM.out.lt g hg
    · exact hg ▸ HM.out.box.lt
  clear HR
  go_loopw [14] (fun i wr => ∃ (t : Nat) (l' : List Named), t ≤ N ∧ i = .int .i64 (t : Int) ∧ Hid (MemAt S wr b m l' left { d with files := part d.files (zs.map up) t }) ∧ Hid (Kept (Go.Proofs.Ytfjhfecjbheipaa.mine S b) w1 wr)) (fun i _ => N - (intOf i).toNat)
  case atStart => exact ⟨0, l, Nat.zero_le _, rfl, by
    have := HM.out.below HB.out
    show MemAt S w1 b m l left { d with files := part d.files (zs.map up) 0 }
    rw [part_zero]
    exact this, Kept.refl _ _⟩
  case round =>
    obtain ⟨t, l', ht, rfl, hd, hk⟩ := hrel
    rcases Nat.lt_or_ge t N with hlt | hge
    · obtain ⟨f, hf⟩ : ∃ f, d.files[t]? = some f := ⟨d.files[t]'(by rw [HN.out]; exact hlt), List.getElem?_eq_getElem _⟩
      have hnames : RSrc strKind wr ao N c (d.files.map (·.name)) := by
        obtain ⟨ao', c', e, hr, _⟩ := RSrc.own strKind_ok (HS.out wr (hk.out.wide (fun g _ => hmo.out g))) (fun _ _ => trivial)
        cases e
        exact hr
      obtain ⟨bb, off2, rfl, hbl, hat⟩ := strs_at hnames (by omega)
      have hcell : wr.cell? ⟨bb, off2 + t, none⟩ = some (.string ⟨f.name.toArray⟩) := hat t f.name (by rw [List.getElem?_map, hf]; rfl)
      clear hat hnames
      have hx := keep (part_look (ps := zs.map up) hf hd.out.good.rising)
      have hnx := keep (part_next (ps := zs.map up) hf hd.out.good.rising)
      have hnl : f.name.length ≤ maxLen := by
        have := (named_true (HM.out.good.names f (List.mem_of_getElem? hf))).2.1
        unfold maxLen
        omega
      rw [pick_up] at hnx
      obtain ⟨nm, sf, fb⟩ := f
      clear hf
      have i1 : (t : Int) < (N : Int) := by omega
      have i0 : (0 : Int) ≤ (t : Int) := by omega
      have hzr := HZ.out wr ((Kept.of_below HB.out).trans hk.out)
      have hzl := hzr.len
      obtain ⟨z, hz⟩ : ∃ z, zs.getD t 0 = z := ⟨_, rfl⟩
      rw [hz] at hnx
      have fin : Hid (∀ e w2, (e = Ending.returned (.tuple #[]) ∧ (∃ l2, MemAt S w2 b m l2 left { ({ d with files := part d.files (zs.map up) t } : Disk) with files := Dk.put (part d.files (zs.map up) t) (Dk.kept ⟨nm, sf, fb⟩ (up z)) }) ∧ Kept (Go.Proofs.Ytfjhfecjbheipaa.mine S b) wr w2) → e = .returned (.tuple #[]) ∧ (∃ l2, Hid (MemAt S w2 b m l2 left { d with files := part d.files (zs.map up) (t + 1) })) ∧ Hid (Kept (Go.Proofs.Ytfjhfecjbheipaa.mine S b) w1 w2)) := by
        rintro e w2 ⟨h1, ⟨l2, h2⟩, h3⟩
        rw [hnx.out] at h2
        exact ⟨h1, ⟨l2, h2⟩, hk.out.trans h3⟩
      rcases Nat.lt_or_ge t n2 with hp | hp
      · obtain ⟨pb, po, rfl, hpl, hpat⟩ := ints_at hzr (by omega)
        have hzs : zs[t]? = some z := by
          have hh : t < zs.length := by omega
          rw [List.getElem?_eq_getElem hh, ← hz]
          simp [List.getD, hh]
        have hpc : wr.cell? ⟨pb, po + t, none⟩ = some (.int .i64 z) := hpat t z hzs
        have p1 : (t : Int) < (n2 : Int) := by omega
        clear hpat hzr hzs hz hzl
        go_wp2_with fail
        rw [up_wrap z]
        refine (lose_mem S b m l' left _ nm nm sf fb (up z) _ hd.out hnl hx.out (up_lt z)).mono ?_
        intro e w2 hpost
        obtain ⟨rfl, ⟨l2, hm2⟩, hk2⟩ := fin.out e w2 hpost
        clear hpost
        go_wp2
        go_roundw
        case rel => exact ⟨t + 1, l2, by omega, by first | rfl | go_num, hm2, hk2⟩
        case measure => simp [intOf]; omega
      · have hz0 : z = 0 := by
          rw [← hz]
          have hh : ¬ t < zs.length := by omega
          simp [List.getD, hh]
        subst hz0
        have p1 : ¬ (t : Int) < (n2 : Int) := by omega
        clear hzr hz hzl
        go_wp2_with fail
        refine (lose_mem S b m l' left _ nm nm sf fb (up 0) _ hd.out hnl hx.out (up_lt 0)).mono ?_
        intro e w2 hpost
        obtain ⟨rfl, ⟨l2, hm2⟩, hk2⟩ := fin.out e w2 hpost
        clear hpost
        go_wp2
        go_roundw
        case rel => exact ⟨t + 1, l2, by omega, by first | rfl | go_num, hm2, hk2⟩
        case measure => simp [intOf]; omega
    · obtain rfl : t = N := by omega
      have hbx := keep hd.out.box
      have c2 := hbx.out.c2
      have c3 := hbx.out.c3
      have fw := hbx.out.warm
      have c32 : ∀ v, (wr.setCell ⟨b, 2, none⟩ v).cell? ⟨b, 3, none⟩ = some (.bool d.dark) := fun v => (setCell_cell wr b 2 3 v (by decide)).trans c3
      go_wp2
      go_ret
      have hd1 := hd.out
      have e1 : part d.files (zs.map up) t = Dk.keptAll d.files (zs.map up) := by rw [← HN.out]; exact part_all _ _
      have hgood := Dk.crash_good (zs.map up) HM.out.good
      have hb2 := (hbx.out.set3 false).set2 (-1)
      have hblk : ∀ g, g ≠ b → ((wr.setCell ⟨b, 3, none⟩ (.bool false)).setCell ⟨b, 2, none⟩ (.int .i64 (-1))).heap[g]? = wr.heap[g]? := fun g hg => (Below.heap_setCell _ ⟨b, 2, none⟩ _ g hg).trans (Below.heap_setCell _ ⟨b, 3, none⟩ _ g hg)
      have hne : ∀ g, S g → g ≠ b := fun g hg e => HM.out.out (by rw [← e]; exact hg)
      have hsz : ((wr.setCell ⟨b, 3, none⟩ (.bool false)).setCell ⟨b, 2, none⟩ (.int .i64 (-1))).heap.size = wr.heap.size := by simp only [World.setCell, Array.size_modify]
      have hM2 : MemAt S ((wr.setCell ⟨b, 3, none⟩ (.bool false)).setCell ⟨b, 2, none⟩ (.int .i64 (-1))) b m l' (-1) (Dk.crash d (zs.map up)) := by
        refine ⟨hgood, HM.out.capb, ?_, hd1.map.same (hblk m (hne m hd1.foot.mine)), ?_, hd1.foot, hd1.out, (fun g hg => by rw [hsz]; exact hd1.lt g hg), fun _ => rfl, by omega⟩
        · have := hb2
          rw [e1] at this
          exact this
        · have := hd1.rel
          rw [show ({ d with files := part d.files (zs.map up) t } : Disk).files = Dk.keptAll d.files (zs.map up) from e1] at this
          exact this.turn (fun _ e => e) (fun x hx _ g hg => hblk g (hne g (hd1.foot.arrs x hx g hg).1))
      have hk2 : Kept (Go.Proofs.Ytfjhfecjbheipaa.mine S b) wr ((wr.setCell ⟨b, 3, none⟩ (.bool false)).setCell ⟨b, 2, none⟩ (.int .i64 (-1))) := ((Kept.refl _ _).setCell (p := ⟨b, 3, none⟩) (.inl (.inr rfl)) _).setCell (p := ⟨b, 2, none⟩) (.inl (.inr rfl)) _
      exact ⟨rfl, MemAt.grow HM.out.box.lt HM.out.out hM2.lt hM2 ((Kept.of_below HB.out).trans hk.out) hk2⟩
end Go.Proofs.Ytfjhfecjbheipaa
