/- The walks of the document's Read, Dump; its New and Cut on plain files. -/
import Derived.Test.YtfjhfecjbheipaaJoinR8
namespace Go.Proofs.Ytfjhfecjbheipaa
open Go.RowKit
open Dk (File Disk)

theorem rnew_ref (F : Nat → Prop) (cap : Nat) (w : World) (h1 : cap ≤ 1099511627776) (hF : ∀ g, F g → g < w.heap.size) :
    Calls Try.prog 26 #[.int .i64 (cap : Int)] w fun e w' => ∃ q, e = .returned (.tuple #[.pointer (some ⟨q, 0, none⟩), .int .i64 0]) ∧ Ref F w' q ⟨cap, [], 0, none, false⟩ ∧ w.heap.size ≤ q ∧ Below w.heap.size w w' := by
  refine (rnew_raw (cap : Int) w (by omega) (by omega)).mono ?_
  rintro e w' ⟨rfl, rfl⟩
  have hb : Below w.heap.size w (w.alloc (.cells #[.int .i64 (cap : Int), .slice none 0 0, .int .i64 0, .int .i64 (-1), .bool false] 41)) := (Below.refl _ _).alloc (Nat.le_refl _) _
  exact ⟨w.heap.size, rfl, ⟨none, 0, 0, [], heap_alloc_new w _, ⟨fun _ _ => RSrc.empty (fun _ => rfl), rfl, rfl⟩, Dk.new_good cap, h1, (fun e => by have := hF _ e; omega), (fun g hg => Nat.lt_of_lt_of_le (hF g hg) hb.size), (fun k e => by cases e)⟩, Nat.le_refl _, hb⟩
theorem rcut_ref (F : Nat → Prop) (q : Nat) (r : Disk) (z : Int) (w : World) (h : Ref F w q r) (hz : z < 9223372036854775808) :
    Calls Try.prog 37 #[.pointer (some ⟨q, 0, none⟩), .int .i64 z] w fun e w' => RefPost F w q (Dk.cut r z) e w' := by
  obtain ⟨ao, n, c, es, h⟩ := h
  by_cases hn : z < 0
  · refine (rcut_neg z hn q w).mono ?_
    rintro e w' ⟨rfl, hb⟩
    have e1 : Dk.cut r z = (1, r) := by unfold Dk.cut; rw [if_pos hn]
    rw [e1]
    exact ⟨rfl, h.stay hb⟩
  · refine (rcut_any z hn q _ _ _ _ _ w h.box).mono ?_
    rintro e w' ⟨rfl, hb, hk⟩
    cases hd : r.dark with
    | true =>
      have e1 : Dk.cut r z = (0, r) := by unfold Dk.cut; rw [if_neg hn, hd]; rfl
      rw [e1]
      rw [hd] at hb
      refine ⟨rfl, ⟨ao, n, c, es, h.turn hk ?_ rfl h.good rfl h.leftb⟩, hk⟩
      rw [hd]
      exact hb
    | false =>
      have e1 : Dk.cut r z = (0, { r with left := some z.toNat }) := by unfold Dk.cut; rw [if_neg hn, hd]; rfl
      have hg := Dk.cut_good z h.good
      rw [e1] at hg ⊢
      rw [hd] at hb
      refine ⟨rfl, ⟨ao, n, c, es, h.turn hk ?_ rfl hg rfl (fun k e => by cases e; omega)⟩, hk⟩
      rw [show ({ r with left := some z.toNat } : Disk).dark = r.dark from rfl, hd, show leftOf ({ r with left := some z.toNat } : Disk).left = z from by show ((z.toNat : Nat) : Int) = z; omega]
      exact hb

set_option maxHeartbeats 1000000 in
set_option maxRecDepth 100000 in
theorem rread_any (F : Nat → Prop) (q : Nat) (r : Disk) (n : List UInt8) (w : World) (h : Ref F w q r) :
    Calls Try.prog 39 #[.pointer (some ⟨q, 0, none⟩), .string ⟨n.toArray⟩] w fun e w' => ∃ v, e = .returned (.tuple #[v, .int .i64 ((readOf r.files n).1 : Int)]) ∧ New w w' v (readOf r.files n).2.length (readOf r.files n).2 := by
  obtain ⟨ao, nn, c, es, h⟩ := h
  have HM := keep h
  clear h
  cases hn : Dk.named n with
  | false =>
    have e1 : readOf r.files n = (1, []) := by unfold readOf; rw [hn]; rfl
    rw [e1]
    go_enter Try.func39, Try.ntmps39
    go_wp2_with fail
    refine (rnamed_any n _).mono ?_
    rintro e w1 ⟨rfl, hb⟩
    have b1 := keep hb
    clear hb e1
    rw [hn]
    go_wp2
    go_ret2
    exact ⟨_, rfl, World.ownsRow_nil _ _ _ _, b1.out⟩
  | true =>
    cases hx : Dk.look r.files n with
    | none =>
      have e1 : readOf r.files n = (3, []) := by unfold readOf; rw [hn, hx]; rfl
      rw [e1]
      have HX := keep hx
      clear hx e1
      go_enter Try.func39, Try.ntmps39
      go_wp2_with fail
      refine (rnamed_any n _).mono ?_
      rintro e w1 ⟨rfl, hb⟩
      have b1 := keep hb
      clear hb
      rw [hn]
      go_wp2_with fail
      refine (rat_any _ q ao nn c es r.files n _ (HM.out.below b1.out).box.c1 (HM.out.below b1.out).rows HM.out.few).mono ?_
      rintro e w3 ⟨he, hb⟩
      have b3 := keep (b1.out.trans (hb.mono b1.out.size))
      clear hb
      rw [HX.out] at he
      obtain rfl : e = .returned (.int .i64 (-1)) := by
        rcases he with ⟨_, h1⟩ | ⟨i, f, _, h1, _⟩
        · exact h1
        · cases h1
      clear he
      go_wp2
      go_ret2
      exact ⟨_, rfl, World.ownsRow_nil _ _ _ _, b3.out⟩
    | some f =>
      obtain ⟨nm, sf, fb⟩ := f
      have e1 : readOf r.files n = (0, fb) := by unfold readOf; rw [hn, hx]; rfl
      rw [e1]
      have HX := keep hx
      clear hx e1
      go_enter Try.func39, Try.ntmps39
      go_wp2_with fail
      refine (rnamed_any n _).mono ?_
      rintro e w1 ⟨rfl, hb⟩
      have b1 := keep hb
      clear hb
      rw [hn]
      go_wp2_with fail
      refine (rat_any _ q ao nn c es r.files n _ (HM.out.below b1.out).box.c1 (HM.out.below b1.out).rows HM.out.few).mono ?_
      rintro e w3 ⟨he, hb⟩
      have b3 := keep (b1.out.trans (hb.mono b1.out.size))
      clear hb
      rw [HX.out] at he
      obtain ⟨i, hi, rfl⟩ : ∃ i : Nat, r.files[i]? = some ⟨nm, sf, fb⟩ ∧ e = .returned (.int .i64 (i : Int)) := by
        rcases he with ⟨h1, _⟩ | ⟨i, f, h1, h2, h3⟩
        · cases h1
        · cases h2
          exact ⟨i, h1, h3⟩
      have i0 : (0 : Int) ≤ (i : Int) := by omega
      have i1 : i < nn := by
        have h1 := (List.getElem?_eq_some_iff.1 hi).1
        have h2 := HM.out.rows.len
        omega
      have i2 : (i : Int) < (nn : Int) := by omega
      have R3 := keep (HM.out.below b3.out)
      obtain ⟨bb, off, hao, hbl, hat⟩ := R3.out.rows.at_ (by omega)
      obtain ⟨p, k, hek, hc0, hc1, hc2⟩ := hat i ⟨nm, sf, fb⟩ hi
      have hhe := keep ((R3.out.rows.held (List.mem_of_getElem? hek)).here)
      have cq := R3.out.box.c1
      rw [hao] at cq
      have hfl : fb.length ≤ 1099511627776 := by
        have h1 := used_mem (List.mem_of_getElem? hi)
        have h2 := HM.out.good.room
        have h3 := HM.out.capb
        simp only [Dk.cost] at h1
        omega
      have ba : ∀ o : Obj, Below w3.heap.size w3 (w3.alloc o) := fun o => (Below.refl _ _).alloc (Nat.le_refl _) o
      have cqo := fun o : Obj => below_cell (ba o) cq
      have hco := fun o : Obj => below_cell (ba o) hc2
      have S3 := keep (hhe.out.below (ba (.cells #[] 5)))
      obtain ⟨i00, hi0, hz0, hz1, hz2⟩ := info_parts info5
      clear he hat hek hi hao cq hc0 hc1 hc2 ba
      go_wp2_with (at_builtin; refine wpList_append_src rfl _ _ 35 rfl w3.heap.size i00 _ Try.underlying35 hi0 hz0 hz1 hz2 rfl _ 0 [] rfl (World.ownsRow_made w3 #[] 0 (Nat.le_refl _) (by unfold maxLen; omega) rfl) _ fb.length k fb rfl S3.out (by omega) (by simp) ?_; intro v6 w6 ho6 hg6; simp only [Nat.zero_add, List.nil_append] at ho6; have H6 := keep ho6; have G6 := keep hg6; clear ho6 hg6)
      go_ret2
      have bb6 : Below w3.heap.size w3 w6 := ((Below.refl _ _).alloc (Nat.le_refl _) _).grown G6.out (by simp) (fun g e => by cases e; exact Nat.le_refl _)
      exact ⟨_, rfl, New.after b3.out ⟨H6.out, bb6⟩⟩
/-- A row of files that a call has begun, bytes and all. -/
structure Fresh (t : TypeId) (w wr : World) (v : Value) (fs : List File) (es : List Ent) : Prop where
  own : wr.ownsRow w.heap.size t 3 v fs.length (rv fileKind es)
  bytes : ∀ e ∈ es, Bytes' w.heap.size wr e
  same : es.map plainE = fs.map plainF
  bel : Below w.heap.size w wr
theorem Fresh.nil (t : TypeId) (w wr : World) (h : Below w.heap.size w wr) : Fresh t w wr (.slice none 0 0) [] [] := ⟨World.ownsRow_nil _ _ _ _, (fun _ h => by cases h), rfl, h⟩
theorem Fresh.more {t : TypeId} {w wr w' w5 : World} {v v5 : Value} {fs : List File} {es : List Ent} (ht : ¬ t = 5) (h : Fresh t w wr v fs es) (hb : Below wr.heap.size wr w') {f : File} {e : Ent} (he : Bytes' w.heap.size w' e) (hp : plainE e = plainF f)
    (ho : w5.ownsRow w.heap.size t 3 v5 (fs.length + 1) (rv fileKind (es ++ [e]))) (hg : w'.grownBy w5 v.ownBlock) : Fresh t w w5 v5 (fs ++ [f]) (es ++ [e]) :=
  ⟨by rw [List.length_append]; exact ho, row_more ht h.own h.bytes hb he hg, by rw [List.map_append, List.map_append, h.same, List.map_cons, hp]; rfl,
    (h.bel.trans (hb.mono h.bel.size)).grown hg (Nat.le_trans h.bel.size hb.size) (fun g hg => (h.own.lt g hg).1)⟩
theorem Fresh.rows {t : TypeId} {w wr : World} {v : Value} {fs : List File} {es : List Ent} (h : Fresh t w wr v fs es) : ∃ ao c, v = .slice ao fs.length c ∧ c ≤ maxLen ∧ Rows4 (Old w.heap.size) wr ao fs.length c es fs := by
  obtain ⟨ao, c, hv, hc, hs⟩ := files_steady h.own (fun e he => (h.bytes e he).steady)
  exact ⟨ao, c, hv, hc, hs, h.same, rfl⟩

end Go.Proofs.Ytfjhfecjbheipaa
