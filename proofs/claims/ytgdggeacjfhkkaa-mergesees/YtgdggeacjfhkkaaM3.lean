/- The walk of parts. -/
import Derived.Test.YtgdggeacjfhkkaaM2
import Derived.Deep.LoopGhost
namespace Go.Proofs.Ytgdggeacjfhkkaa
open Go.RowKit
open Sk (Ent)

theorem infoL : (Try.prog.info? 24).map (fun i => (i.zero, i.size, i.bytes)) = some (some (.slice none 0 0), 1, 24) := by kernel_rfl
/-- A row of rows that was made at or beyond B. -/
structure Lists (B : Nat) (w : World) (v : Value) (ls : List LV) : Prop where
  row : w.ownsRow B 24 1 v ls.length (rv listKind ls)
  each : ∀ y ∈ ls, listKind.held w y
theorem Lists.nil (B : Nat) (w : World) : Lists B w (.slice none 0 0) [] := ⟨World.ownsRow_nil _ _ _ _, fun y h => by cases h⟩
theorem Lists.src {B : Nat} {w : World} {v : Value} {ls : List LV} (h : Lists B w v ls) : ∃ ao c, v = .slice ao ls.length c ∧ RSrc listKind w ao ls.length c ls ∧ c ≤ maxLen := RSrc.own listKind_ok h.row h.each
theorem Lists.below {B : Nat} {w w' : World} {v : Value} {ls : List LV} (h : Lists B w v ls) (hb : Below w.heap.size w w') : Lists B w' v ls := ⟨own_block h.row (fun g hg => hb.block g (own_size h.row hg)), fun y hy => listKind_ok.below (h.each y hy) hb⟩
/-- How far parts has come: k entries are taken, in rows ls. -/
structure PartI (w0 w : World) (n c k : Nat) (q : Ent → Ent → Bool) (es : List EV) (ls : List LV) (v : Value) (wr : World) : Prop where
  kn : k ≤ n
  few : ls.length ≤ k
  below : Below w.heap.size w wr
  left : ∃ p', Left wr w.heap.size p' (n - k) (c - k) ∧ RSrc entKind w0 p' (n - k) (c - k) (es.drop k)
  row : wr.ownsRow w.heap.size 24 1 v ls.length (rv listKind ls)
  each : ∀ y ∈ ls, listKind.held w0 y ∧ y.c ≤ c
  val : Mg.parts (fun x y => q x.e y.e) es = ls.map (·.es) ++ Mg.parts (fun x y => q x.e y.e) (es.drop k)
set_option maxHeartbeats 4000000 in
set_option maxRecDepth 100000 in
theorem parts_any0 (w0 : World) (F : Nat) (q : Ent → Ent → Bool) (hT : Tells2 F q) (hE : Enters F) (ao : Option Addr) (n c : Nat) (es : List EV) (w : World) (h0 : Below w0.heap.size w0 w) (hs : RSrc entKind w0 ao n c es) (hN : n ≤ 1000000) (hc : c ≤ maxLen) :
    Calls Try.prog 23 #[.slice ao n c, .func (.func F) #[] #[]] w fun e w' => ∃ v ls, e = .returned v ∧ w'.ownsRow w.heap.size 24 1 v ls.length (rv listKind ls) ∧ (∀ y ∈ ls, listKind.held w0 y ∧ y.c ≤ c) ∧ ls.map (·.es) = Mg.parts (fun x y => q x.e y.e) es ∧ ls.length ≤ n ∧ Below w.heap.size w w' := by
  obtain ⟨i0, hi0, hz0, hz1, hz2⟩ := info_parts3 infoL
  have HS := keep hs
  have HC := keep hc
  have HLEN := keep hs.len
  have W1B : Hid (Below w.heap.size w (w.alloc (.cells #[.slice ao n c] 64))) := (Below.refl _ _).alloc (Nat.le_refl _) _
  have W1L : Hid (Left (w.alloc (.cells #[.slice ao n c] 64)) w.heap.size ao n c) := heap_alloc_new w _
  have H0 := keep h0
  clear hs hc h0
  go_enter Try.func23, Try.ntmps23
  go_wp2
  go_loopg [5] n (fun kx v wr => ∃ (k : Nat) (ls : List LV), kx = n - k ∧ Hid (PartI w0 w n c k q es ls v wr))
  case atStart => exact ⟨0, [], rfl, Nat.zero_le _, Nat.le_refl _, W1B.out, ⟨ao, W1L.out, HS.out⟩, World.ownsRow_nil _ _ _ _, (fun y h => by cases h), rfl⟩
  case round =>
    obtain ⟨k, ls, hkx, hI⟩ := hrel
    obtain ⟨p', hL, hR⟩ := hI.out.left
    have HL := keep hL
    have HR := keep hR
    have HB := keep hI.out.below
    have MR := keep (more_any w.heap.size p' (n - k) (c - k) wr hL)
    have hkn := hI.out.kn
    clear hL hR
    rcases Nat.lt_or_ge k n with hlt | hge
    · have d0 : decide (0 < n - k) = true := decide_eq_true (by omega)
      rw [d0] at MR
      obtain ⟨b, off, rfl, _, _⟩ := HR.out.form entKind_ok (by omega)
      have PT := keep (part_any F q hT hE w.heap.size b off (n - k) (c - k) (es.drop k) wr HL.out ((HR.out.below entKind_ok H0.out).below entKind_ok HB.out) (by omega) (by omega) (Nat.le_trans (Nat.sub_le _ _) HC.out))
      clear d0
      go_wp2_with fail
      refine MR.out.mono ?_
      rintro e w1 ⟨rfl, rfl⟩
      go_wp2_with fail
      refine PT.out.mono ?_
      rintro e w2 ⟨p2, m, rfl, hm0, hm, h1, h2, h3, h4⟩
      have G2 := keep h2
      have L2 := keep h1
      have V2 := keep h4
      have A3 := keep (HR.out.after hm h3)
      have M0 := keep hm0
      have MN := keep hm
      have B2 := keep (HB.out.grown h2 HB.out.size (fun j hj => by cases hj; exact Nat.le_refl _))
      have O2 : Hid (w2.ownsRow w.heap.size 24 1 u5 ls.length (rv listKind ls)) := own_block hI.out.row (fun g hg => h2.block g (own_size hI.out.row hg) (fun e => by
        obtain ⟨cur, hcur⟩ := own_tag hI.out.row hg
        cases e
        have hh := HL.out
        unfold Left at hh
        rw [hh] at hcur
        cases hcur))
      obtain ⟨y, hy⟩ : ∃ y : LV, y = ⟨some ⟨b, off, none⟩, c - k, (es.drop k).take m⟩ := ⟨_, rfl⟩
      have hyl : y.es.length = m := by rw [hy]; show ((es.drop k).take m).length = m; rw [List.length_take, List.length_drop, HLEN.out]; omega
      have Y : Hid (y.p = some ⟨b, off, none⟩ ∧ y.c = c - k ∧ y.es = (es.drop k).take m ∧ y.es.length = m) := ⟨by rw [hy], by rw [hy], by rw [hy], hyl⟩
      have yh : Hid (listKind.held w0 y) := by
        show RSrc entKind w0 y.p y.es.length y.c y.es
        rw [Y.out.2.2.2, Y.out.1, Y.out.2.1, Y.out.2.2.1]
        exact HR.out.head entKind_ok m hm
      have rc : Hid (∀ j u, (listKind.vals y)[j]? = some u → (w2.alloc (.cells #[.slice (some ⟨b, off, none⟩) m (c - k)] 24)).cell? ((⟨w2.heap.size, 0, none⟩ : Addr).add j) = some u) := by
        have := rec_cells (k := listKind) w2 24 y
        simp only [listKind] at this ⊢
        rw [Y.out.1, Y.out.2.1, Y.out.2.2.2] at this
        rw [Y.out.1, Y.out.2.1, Y.out.2.2.2]
        exact this
      have B3 := keep (B2.out.alloc B2.out.size (.cells #[.slice (some ⟨b, off, none⟩) m (c - k)] 24))
      have O3 := keep (O2.out.alloc (.cells #[.slice (some ⟨b, off, none⟩) m (c - k)] 24))
      have L3 : Hid (Left (w2.alloc (.cells #[.slice (some ⟨b, off, none⟩) m (c - k)] 24)) w.heap.size p2 (n - k - m) (c - k - m)) := (Below.heap_alloc _ _ _ (Array.getElem?_eq_some_iff.1 h1).1).trans h1
      have hfew := hI.out.few
      clear h1 h2 h3 h4 hm0 hm hy hyl MR PT
      go_wp2_with (at_builtin; go_loud (refine wpList_append_rec listKind_ok rfl _ _ 22 24 rfl w.heap.size i0 _ 24 Try.underlying22 hi0 hz0 hz1 hz2 rfl u5 ls.length ls rfl O3.out _ 1 y rfl rc.out (by unfold maxLen; omega) (by omega) B3.out.size ?_); intro v5 w5 ho5 hg5; have HO5 := keep ho5; have HG5 := keep hg5; clear ho5 hg5)
      have hmn := MN.out
      have hm0 := M0.out
      go_roundg (n - (k + m))
      case measure => omega
      case rel =>
        refine ⟨k + m, ls ++ [y], rfl, ⟨by omega, by rw [List.length_append, List.length_singleton]; omega, ?_, ⟨p2, ?_, ?_⟩, ?_, ?_, ?_⟩⟩
        · exact B3.out.grown HG5.out B3.out.size (fun j hj => (O3.out.lt j hj).1)
        · rw [← Nat.sub_sub, ← Nat.sub_sub]
          refine (HG5.out.block _ (Array.getElem?_eq_some_iff.1 L3.out).1 (fun e => ?_)).trans L3.out
          obtain ⟨cur, hcur⟩ := own_tag O3.out e.symm
          have hh := L3.out
          unfold Left at hh
          rw [hh] at hcur
          cases hcur
        · have := A3.out
          rwa [Nat.sub_sub, Nat.sub_sub, List.drop_drop] at this
        · rw [List.length_append]; exact HO5.out
        · intro z hz
          rcases List.mem_append.1 hz with hz | hz
          · exact hI.out.each z hz
          · rw [List.mem_singleton.1 hz]; exact ⟨yh.out, by rw [Y.out.2.1]; omega⟩
        · rw [hI.out.val, V2.out, List.map_append, List.append_assoc, List.drop_drop]
          simp only [List.map_cons, List.map_nil, List.cons_append, List.nil_append, Y.out.2.2.1]
    · have d0 : decide (0 < n - k) = false := decide_eq_false (by omega)
      rw [d0] at MR
      clear d0
      have hkn2 : k = n := by omega
      have VV : Hid (ls.map (·.es) = Mg.parts (fun x y => q x.e y.e) es) := by
        have h1 := hI.out.val
        have h2 : es.drop k = [] := List.drop_of_length_le (by rw [HLEN.out]; omega)
        rw [h2, show Mg.parts (fun x y : EV => q x.e y.e) [] = [] from rfl, List.append_nil] at h1
        exact h1.symm
      clear hkn2
      go_wp2_with fail
      refine MR.out.mono ?_
      rintro e w1 ⟨rfl, rfl⟩
      go_wp2
      go_ret
      exact ⟨_, ls, rfl, hI.out.row, hI.out.each, VV.out, Nat.le_trans hI.out.few hkn, HB.out⟩
theorem parts_any (F : Nat) (q : Ent → Ent → Bool) (hT : Tells2 F q) (hE : Enters F) (ao : Option Addr) (n c : Nat) (es : List EV) (w : World) (hs : RSrc entKind w ao n c es) (hN : n ≤ 1000000) (hc : c ≤ maxLen) :
    Calls Try.prog 23 #[.slice ao n c, .func (.func F) #[] #[]] w fun e w' => ∃ v ls, e = .returned v ∧ w'.ownsRow w.heap.size 24 1 v ls.length (rv listKind ls) ∧ (∀ y ∈ ls, listKind.held w y ∧ y.c ≤ c) ∧ ls.map (·.es) = Mg.parts (fun x y => q x.e y.e) es ∧ ls.length ≤ n ∧ Below w.heap.size w w' :=
  parts_any0 w F q hT hE ao n c es w (Below.refl _ _) hs hN hc
end Go.Proofs.Ytgdggeacjfhkkaa
