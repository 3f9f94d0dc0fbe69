/- The walk of the law's mine: the document's files as the program's. -/
import Derived.Test.YtfjhfecjbheipaaLga
import Derived.Test.YtfjhfecjbheipaaDp
import Derived.Test.YtfjhfecjbheipaaS0
namespace Go.Proofs.Ytfjhfecjbheipaa
open Go.RowKit
open Dk (File Disk)

set_option maxHeartbeats 1000000 in
set_option maxRecDepth 100000 in
theorem minef_any (ao : Option Addr) (n c : Nat) (es : List Ent) (w : World) (hs : RSrc fileKind w ao n c es) (hn : n ≤ 1099511627776) :
    Calls Try.prog 6 #[.slice ao n c] w fun e w' => ∃ ao' c', e = .returned (.slice ao' n c') ∧ RSrc fileKind w' ao' n c' es ∧ Below w.heap.size w w' := by
  have HS := keep hs
  have HLEN := keep hs.len
  obtain ⟨i0, hi, hz0, hz1, hz2⟩ := info_parts3 infoF
  clear hs
  go_enter Try.func6, Try.ntmps6
  go_wp2_with fail
  go_loopw [3, 4] (fun v i wr => ∃ t : Nat, t ≤ n ∧ i = .int .i64 (t : Int) ∧ Hid (wr.ownsRow w.heap.size 56 3 v t (rv fileKind (es.take t)) ∧ Below w.heap.size w wr)) (fun _ i _ => n - (intOf i).toNat)
  case atStart => exact ⟨0, Nat.zero_le _, rfl, World.ownsRow_nil _ _ _ _, Below.refl _ _⟩
  case round =>
    obtain ⟨t, ht, rfl, hg⟩ := hrel
    rcases Nat.lt_or_ge t n with hlt | hge
    · obtain ⟨e, he⟩ : ∃ e, es[t]? = some e := ⟨es[t]'(by rw [HLEN.out]; exact hlt), List.getElem?_eq_getElem _⟩
      obtain ⟨b, off, rfl, hbl, hat⟩ := HS.out.form fileKind_ok (by omega)
      have j0 : (0 : Int) ≤ (t : Int) := by omega
      have j1 : (t : Int) < (n : Int) := by omega
      have hst := keep (show es.take (t + 1) = es.take t ++ [e] by rw [List.take_add_one, he]; rfl)
      obtain ⟨fnm, fsf, p, k, fbs⟩ := e
      have hc0 : wr.cell? ⟨b, off + t * 3, none⟩ = some (.string ⟨fnm.toArray⟩) := below_cell hg.out.2 (hat t _ he 0 _ rfl)
      have hc1 : wr.cell? ⟨b, off + t * 3 + 1, none⟩ = some (.int .i64 fsf) := below_cell hg.out.2 (hat t _ he 1 _ rfl)
      have hc2 : wr.cell? ⟨b, off + t * 3 + 2, none⟩ = some (.slice p fbs.length k) := below_cell hg.out.2 (hat t _ he 2 _ rfl)
      clear hat he
      have b4 := keep (((Below.refl wr.heap.size wr).drew).alloc (w := wr.drew) (Nat.le_refl _) (.cells #[.string ⟨fnm.toArray⟩, .int .i64 fsf, .slice p fbs.length k] 56))
      have ow := keep (own_block (w' := (wr.alloc (.cells #[.string ⟨fnm.toArray⟩, .int .i64 fsf, .slice p fbs.length k] 56)).drew) hg.out.1 (fun g hgg => b4.out.block g (own_size hg.out.1 hgg)))
      have sz := keep (show w.heap.size ≤ ((wr.alloc (.cells #[.string ⟨fnm.toArray⟩, .int .i64 fsf, .slice p fbs.length k] 56)).drew).heap.size from Nat.le_trans hg.out.2.size b4.out.size)
      have qa : ∀ {pp : Addr} {vv : Value}, wr.cell? pp = some vv → ((wr.alloc (.cells #[.string ⟨fnm.toArray⟩, .int .i64 fsf, .slice p fbs.length k] 56)).drew).cell? pp = some vv := fun hh => below_cell (((Below.refl wr.heap.size wr).alloc (Nat.le_refl _) _).drew) hh
      have hn3 : some b ≠ u3.ownBlock := fun e => by have := (hg.out.1.lt b e.symm).1; omega
      go_wp2_with fail
      go_region_held3 (fun w' => w'.cell? ⟨b, off + t * 3, none⟩ = some (.string ⟨fnm.toArray⟩) ∧ w'.cell? ⟨b, off + t * 3 + 1, none⟩ = some (.int .i64 fsf) ∧ w'.cell? ⟨b, off + t * 3 + 2, none⟩ = some (.slice p fbs.length k))
        (first | go_keep | exact ⟨qa hc0, qa hc1, qa hc2⟩ | exact ⟨hc0, hc1, hc2⟩ | exact ⟨rr1 (qa hc0), rr1 (qa hc1), rr1 (qa hc2)⟩)
        (first | (refine step_append_rec fileKind_ok (by rfl) _ _ 29 56 (by rfl) w.heap.size i0 _ 48 Try.underlying29 hi hz0 hz1 hz2 (by rfl) u3 _ (es.take t) (by rfl) ow.out _ 1 (⟨fnm, fsf, p, k, fbs⟩ : Ent) (by rfl) (rec_cells (k := fileKind) wr 56 (⟨fnm, fsf, p, k, fbs⟩ : Ent)) (by unfold maxLen; omega) (by omega) sz.out ?_; intro v7 w7 ho7 hg7; have rr1 : ∀ {o : Nat} {vv : Value}, ((wr.alloc (.cells #[.string ⟨fnm.toArray⟩, .int .i64 fsf, .slice p fbs.length k] 56)).drew).cell? ⟨b, o, none⟩ = some vv → w7.cell? ⟨b, o, none⟩ = some vv := fun hh => hg7.cell hh hn3; have HO7 := keep ho7; have HG7 := keep hg7; clear ho7 hg7))
      have gn : Hid (w7.ownsRow w.heap.size 56 3 v7 (t + 1) (rv fileKind (es.take (t + 1))) ∧ Below w.heap.size w w7) := by
        refine ⟨by rw [hst.out]; exact HO7.out, (hg.out.2.trans (b4.out.mono hg.out.2.size)).grown HG7.out sz.out (fun g e => (hg.out.1.lt g e).1)⟩
      clear rr1 qa
      go_wp2
      go_roundw
      case rel => exact ⟨t + 1, by omega, by first | rfl | go_num, gn⟩
      case measure => simp [intOf]; omega
    · obtain rfl : t = n := by omega
      have hall := hg.out
      rw [List.take_of_length_le (by rw [HLEN.out]; exact Nat.le_refl _)] at hall
      obtain ⟨ao5, c5, rfl, hr5, _⟩ := RSrc.own fileKind_ok hall.1 (fun e he => fileKind_ok.below (HS.out.held e he) hall.2)
      have H5 := keep hr5
      have B5 := keep hall.2
      clear hall hr5
      go_wp2
      go_ret
      exact ⟨ao5, c5, rfl, H5.out, B5.out⟩
end Go.Proofs.Ytfjhfecjbheipaa
