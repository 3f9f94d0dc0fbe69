/- The walks of slices.Reverse and sort.Search, of a row of ints' take and until, of asked's closure. -/
import Derived.Test.YtgdggeacjfhkkaaM1
import Derived.Test.YtgdggeacjfhkkaaMi
import Derived.Deep.RegionHeld3
import Derived.Deep.LoopGhost
import Derived.Deep.QuietTactic
import Derived.BigQuiet
import Derived.WalkSmall
import Derived.Shelf.Abstract
namespace Go.Proofs.Ytgdggeacjfhkkaa
open Go.RowKit
open Sk (Ent)

theorem reverseI_own (v : Value) (n B : Nat) (zs : List Int) (w0 w : World) (ho : w.ownsRow B 3 1 v n (zs.map (Value.int .i64))) (hb : Below B w0 w) (hB : B ≤ w.heap.size) (hn : n ≤ 1000000) :
    Calls Try.prog 36 #[v] w fun e w' => e = .returned (.tuple #[]) ∧ w'.ownsRow B 3 1 v n (zs.reverse.map (Value.int .i64)) ∧ Below B w0 w' := by
  have hl : zs.length = n := by simpa using ho.1
  rcases ho.2 with ⟨rfl, h0⟩ | ⟨g, cap, cur, rfl, hg, hh, hc, hm, hs, ht⟩
  · subst h0
    refine (sh_slices_Reverse_int_empty none 0 w).mono ?_
    rintro e w' ⟨rfl, rfl⟩
    obtain rfl : zs = [] := List.length_eq_zero_iff.1 hl
    exact ⟨rfl, ho, hb⟩
  · have hH := Go.holds_of_blockI (w := w) (g := g) (cur := cur) (e := 3) (ss := zs) hh (by rw [hl]; rw [Nat.mul_one] at ht; exact ht)
    subst hl
    refine (sh_slices_Reverse_int g 0 cap zs w hH (by omega)).mono ?_
    rintro e w' ⟨rfl, q, rfl⟩
    have h1 := Go.ownsRow_sortedI (w := w) (n := q) (os := #[]) (ss := zs) (ts := zs.reverse) (by simp) hg hh hc hm hs
    have h2 := Go.grownBy_sortedI (w := w) (g := g) (n := q) (os := #[]) zs.reverse.toArray
    rw [Sort.grow_empty] at h1 h2
    exact ⟨rfl, h1, hb.grown h2 hB (fun k hk => by cases hk; exact hg)⟩
/-- A row of ints that is gone through: what is left of it. -/
def LeftI (w : World) (B : Nat) (p : Option Addr) (n c : Nat) : Prop := w.heap[B]? = some (.cells #[.slice p n c] 73)
theorem LeftI.cell {w : World} {B : Nat} {p : Option Addr} {n c : Nat} (h : LeftI w B p n c) : w.cell? ⟨B, 0, none⟩ = some (.slice p n c) := cell_of_row _ _ _ _ _ _ h
theorem LeftI.free {w : World} {B : Nat} {p : Option Addr} {n c : Nat} (h : LeftI w B p n c) : w.frozen? ⟨B, 0, none⟩ = false := by simp [World.frozen?, show w.heap[B]? = _ from h]
theorem LeftI.set {w : World} {B : Nat} {p : Option Addr} {n c : Nat} (h : LeftI w B p n c) (p' : Option Addr) (n' c' : Nat) : LeftI (w.setCell ⟨B, 0, none⟩ (.slice p' n' c')) B p' n' c' := by
  unfold LeftI
  rw [set_row h 0]
  rfl
theorem RSrc.afterI {w : World} {p : Option Addr} {n c m : Nat} {zs : List Int} {p' : Option Addr} (h : RSrc inK w p n c zs) (hm : m ≤ n) (hp : (∃ b off, p = some ⟨b, off, none⟩ ∧ p' = some ⟨b, off + m, none⟩) ∨ p' = p ∧ m = c) : RSrc inK w p' (n - m) (c - m) (zs.drop m) := by
  rcases hp with ⟨b, off, rfl, rfl⟩ | ⟨rfl, rfl⟩
  · have := h.tail inK_ok m hm
    rwa [show inK.size = 1 from rfl, Nat.mul_one] at this
  · have h1 := h.cap
    have h2 : n = m := by omega
    subst h2
    rw [List.drop_of_length_le (by rw [h.len]; exact Nat.le_refl _), Nat.sub_self]
    exact RSrc.empty (fun e => rfl)
set_option maxHeartbeats 2000000 in
set_option maxRecDepth 100000 in
theorem takeI_any (B : Nat) (p : Option Addr) (n c m : Nat) (zs : List Int) (w : World) (h : LeftI w B p n c) (hs : RSrc inK w p n c zs) (hm : m ≤ n) (hc : c ≤ maxLen) (hfo : p = none ∨ ∃ b off, p = some ⟨b, off, none⟩) :
    Calls Try.prog 61 #[.pointer (some ⟨B, 0, none⟩), .int .i64 (m : Int)] w fun e w' => ∃ p', e = .returned (.slice p m c) ∧ w' = w.setCell ⟨B, 0, none⟩ (.slice p' (n - m) (c - m)) ∧ ((∃ b off, p = some ⟨b, off, none⟩ ∧ p' = some ⟨b, off + m, none⟩) ∨ p' = p ∧ m = c) := by
  have c0 := h.cell
  have f0 := h.free
  have hcap := hs.cap
  have HS := keep hs
  unfold maxLen at hc
  clear h hs
  have m0 : (0 : Int) ≤ (m : Int) := by omega
  have mn : (m : Int) ≤ (n : Int) := by omega
  have mc : (m : Int) ≤ (c : Int) := by omega
  have nc : (n : Int) ≤ (c : Int) := by omega
  rcases Nat.lt_or_ge m c with hlt | hge
  · have nm : ¬ c = m := by omega
    have nm2 : ¬ m = c := by omega
    rcases hfo with rfl | ⟨b, off, rfl⟩
    · have := (HS.out.nil rfl).2
      omega
    · go_enter Try.func61, Try.ntmps61
      go_wp2
      go_ret
      exact ⟨_, rfl, rfl, .inl ⟨b, off, rfl, rfl⟩⟩
  · obtain rfl : c = m := by omega
    obtain rfl : n = c := by omega
    go_enter Try.func61, Try.ntmps61
    go_wp2
    go_ret
    exact ⟨p, rfl, by simp, by simp⟩
set_option maxHeartbeats 1000000 in
theorem asked1_any (E : Nat) (s x : Int) (w : World) (hE : w.cell? ⟨E, 1, none⟩ = some (.int .i64 s)) :
    Calls Try.prog 54 #[.int .i64 x, .pointer (some ⟨E, 0, none⟩)] w fun e w' => e = .returned (.bool (decide (x < s))) ∧ w' = w := by
  go_enter Try.func54, Try.ntmps54
  go_wp2
  go_ret
  exact ⟨rfl, rfl⟩
set_option maxHeartbeats 2000000 in
set_option maxRecDepth 100000 in
theorem until1_any (bf bp E P : Nat) (s : Int) (b off n c i : Nat) (zs : List Int) (w : World) (hf : w.cell? ⟨bf, 0, none⟩ = some (.func (.func 54) #[] #[.pointer (some ⟨E, 0, none⟩)])) (hp : w.cell? ⟨bp, 0, none⟩ = some (.pointer (some ⟨P, 0, none⟩)))
    (hP : w.cell? ⟨P, 0, none⟩ = some (.slice (some ⟨b, off, none⟩) n c)) (hE : w.cell? ⟨E, 1, none⟩ = some (.int .i64 s)) (hs : RSrc inK w (some ⟨b, off, none⟩) n c zs) (hi : i < n) :
    Calls Try.prog 63 #[.int .i64 (i : Int), .pointer (some ⟨bf, 0, none⟩), .pointer (some ⟨bp, 0, none⟩)] w fun e w' => e = .returned (.bool (decide (zs.getD i 0 < s))) ∧ Below w.heap.size w w' := by
  have ci := int_cell hs hi
  obtain ⟨Z, hZ⟩ : ∃ Z, zs.getD i 0 = Z := ⟨_, rfl⟩
  rw [hZ] at ci ⊢
  have A1 := keep (asked1_any E s Z w.drew hE)
  have i0 : (0 : Int) ≤ (i : Int) := by omega
  have i1 : (i : Int) < (n : Int) := by omega
  clear hs hZ hE
  go_enter Try.func63, Try.ntmps63
  go_wp2_with fail
  go_region_held3 (fun w' => w'.cell? ⟨bf, 0, none⟩ = some (.func (.func 54) #[] #[.pointer (some ⟨E, 0, none⟩)]) ∧ w'.cell? ⟨bp, 0, none⟩ = some (.pointer (some ⟨P, 0, none⟩)) ∧ w'.cell? ⟨P, 0, none⟩ = some (.slice (some ⟨b, off, none⟩) n c) ∧ w'.cell? ⟨b, off + i, none⟩ = some (.int .i64 Z))
    (exact ⟨hf, hp, hP, ci⟩)
    ((go_at_call 54; refine A1.out.mono ?_; rintro e w4 ⟨rfl, rfl⟩))
  go_wp2
  go_ret
  exact ⟨rfl, (Below.refl _ _).drew⟩
set_option maxHeartbeats 2000000 in
set_option maxRecDepth 100000 in
theorem search_any (bf bp n : Nat) (pr : Nat → Bool) (w : World) (hn : n ≤ 1000000) (hf : ∀ (w' : World) (i : Nat), Below w.heap.size w w' → i < n → Calls Try.prog 63 #[.int .i64 (i : Int), .pointer (some ⟨bf, 0, none⟩), .pointer (some ⟨bp, 0, none⟩)] w' fun e w'' => e = .returned (.bool (pr i)) ∧ Below w'.heap.size w' w'')
    (hmono : ∀ a b, a ≤ b → b < n → pr a = true → pr b = true) :
    Calls Try.prog 62 #[.int .i64 (n : Int), .func (.func 63) #[] #[.pointer (some ⟨bf, 0, none⟩), .pointer (some ⟨bp, 0, none⟩)]] w fun e w' => (∃ m : Nat, e = .returned (.int .i64 (m : Int)) ∧ m ≤ n ∧ (∀ t, t < m → pr t = false) ∧ (∀ t, m ≤ t → t < n → pr t = true)) ∧ Below w.heap.size w w' := by
  have HF := keep hf
  have M := keep hmono
  clear hf hmono
  go_enter Try.func62, Try.ntmps62
  go_wp2
  go_loopg [5, 6] n (fun kx s5 s6 wr => ∃ (lo hi : Nat), s5 = .int .i64 lo ∧ s6 = .int .i64 hi ∧ lo ≤ hi ∧ hi ≤ n ∧ hi - lo ≤ kx ∧ Hid (Below w.heap.size w wr ∧ (∀ t, t < lo → pr t = false) ∧ (∀ t, hi ≤ t → t < n → pr t = true)))
  case atStart => exact ⟨0, n, rfl, rfl, Nat.zero_le _, Nat.le_refl _, by omega, Below.refl _ _, fun t ht => absurd ht (Nat.not_lt_zero _), fun t h1 h2 => by omega⟩
  case round =>
    obtain ⟨lo, hi, rfl, rfl, hlh, hin, hg, I⟩ := hrel
    by_cases hlt : lo < hi
    · have hc := HF.out wr ((lo + hi) / 2) I.out.1 (by omega)
      rw [show (((lo + hi) / 2 : Nat) : Int) = ((lo : Int) + (hi : Int)) / 2 by omega] at hc
      cases hp : pr ((lo + hi) / 2) <;> rw [hp] at hc
      · have HP := keep hp
        have HC := keep hc
        clear hp hc
        go_wp2_with fail
        refine HC.out.mono ?_
        rintro e w2 ⟨rfl, hb2⟩
        have B2 := keep (I.out.1.trans (hb2.mono I.out.1.size))
        clear hb2
        go_wp2
        go_roundg (hi - ((lo + hi) / 2 + 1))
        case measure => omega
        case rel => exact ⟨(lo + hi) / 2 + 1, hi, by rw [show ((lo : Int) + (hi : Int)) / 2 + 1 = (((lo + hi) / 2 + 1 : Nat) : Int) by omega], rfl, by omega, hin, Nat.le_refl _, B2.out, fun t ht => (by
            cases h : pr t with
            | false => rfl
            | true => have := M.out t ((lo + hi) / 2) (by omega) (by omega) h; rw [HP.out] at this; cases this), I.out.2.2⟩
      · have HP := keep hp
        have HC := keep hc
        clear hp hc
        go_wp2_with fail
        refine HC.out.mono ?_
        rintro e w2 ⟨rfl, hb2⟩
        have B2 := keep (I.out.1.trans (hb2.mono I.out.1.size))
        clear hb2
        go_wp2
        go_roundg ((lo + hi) / 2 - lo)
        case measure => omega
        case rel => exact ⟨lo, (lo + hi) / 2, rfl, by rw [show ((lo : Int) + (hi : Int)) / 2 = (((lo + hi) / 2 : Nat) : Int) by omega], by omega, by omega, Nat.le_refl _, B2.out, I.out.2.1, fun t ht htn => M.out ((lo + hi) / 2) t ht htn HP.out⟩
    · obtain rfl : hi = lo := by omega
      go_wp2
      go_ret
      exact ⟨⟨hi, rfl, hin, I.out.2.1, I.out.2.2⟩, I.out.1⟩
end Go.Proofs.Ytgdggeacjfhkkaa
