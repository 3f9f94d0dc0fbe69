/- The walk of the document's TakeFix. -/
import Derived.Test.YtomceheophnjnaaDoorT
namespace Go.Proofs.YtomceheophnjnaaDoor
open Go.RowKit

theorem fix_lt {l : List UInt8} {k : Nat} (hl : 8 ≤ l.length) (hk : k < 8) (h0 : (fn l 0).toNat < 128) : big (l.take k) * 256 + (fn l k).toNat < 9223372036854775808 := by
  rw [← big_take l k (by omega)]
  cases l with
  | nil => simp at hl
  | cons b t =>
    have hb : b.toNat < 128 := h0
    rw [List.take_succ_cons, big_cons]
    have h1 := big_lt (t.take k)
    have hlen : (t.take k).length = k := by rw [List.length_take]; simp at hl; omega
    rw [hlen] at h1 ⊢
    have h2 : 256 ^ k ≤ 256 ^ 7 := Nat.pow_le_pow_right (by decide) (by omega)
    have e : (256 : Nat) ^ 7 = 72057594037927936 := rfl
    have h3 : b.toNat * 256 ^ k ≤ 127 * 256 ^ k := Nat.mul_le_mul_right _ (by omega)
    omega
theorem fix_top {l : List UInt8} (hl : 8 ≤ l.length) : big (l.take 8) < 9223372036854775808 ↔ (fn l 0).toNat < 128 := by
  cases l with
  | nil => simp at hl
  | cons b t =>
    rw [List.take_succ_cons]
    exact big_top b (t.take 7) (by rw [List.length_take]; simp at hl; omega)

def FixPost (w : World) (m : Nat) (l : List UInt8) (e : Ending) (w' : World) : Prop := (∃ v, 8 ≤ m ∧ big (l.take 8) < 9223372036854775808 ∧ e = .returned (.tuple #[.int .i64 ((big (l.take 8) : Nat) : Int), v, .int .i64 0]) ∧ New w w' v (m - 8) (l.drop 8)) ∨ ((m < 8 ∨ 9223372036854775808 ≤ big (l.take 8)) ∧ e = .returned (.tuple #[.int .i64 0, .slice none 0 0, .int .i64 2]) ∧ Below w.heap.size w w')
theorem fix_ok {w w' : World} {m : Nat} {l : List UInt8} {v : Value} {q : Nat} (h1 : 8 ≤ m) (h2 : big (l.take 8) < 9223372036854775808) (hq : big (l.take 8) = q) (h3 : New w w' v (m - 8) (l.drop 8)) : FixPost w m l (.returned (.tuple #[.int .i64 (q : Int), v, .int .i64 0])) w' := by
  subst hq
  exact .inl ⟨v, h1, h2, rfl, h3⟩
theorem fix_no {w w' : World} {m : Nat} {l : List UInt8} (h : m < 8 ∨ 9223372036854775808 ≤ big (l.take 8)) (hb : Below w.heap.size w w') : FixPost w m l (.returned (.tuple #[.int .i64 0, .slice none 0 0, .int .i64 2])) w' := .inr ⟨h, rfl, hb⟩

set_option maxHeartbeats 1000000 in
set_option maxRecDepth 100000 in
theorem rtakeFix_core (ao : Option Addr) (m c : Nat) (l : List UInt8) (w : World) (hm : m ≤ 140737488355328) (hs : Src w ao m c l) :
    Calls Tryd.prog 22 #[.slice ao m c] w fun e w' => FixPost w m l e w' := by
  obtain ⟨i0, hi, hz0, hz1, hz2⟩ := info_parts info5
  have HS := keep hs
  have hll := hs.len
  have hcap := hs.cap
  clear hs
  by_cases h8 : m < 8
  · have h8' : (m : Int) < 8 := by omega
    go_enter Tryd.func22, Tryd.ntmps22
    go_wp2
    go_ret3
    exact fix_no (.inl h8) (Below.refl _ _)
  · have h8' : ¬ ((m : Int) < 8) := by omega
    have hm0 : (0 : Int) < (m : Int) := by omega
    obtain ⟨b, off, rfl, hbw, hby⟩ := HS.out.form (by omega)
    have hcell0 := hby 0 (by omega)
    rw [Nat.add_zero] at hcell0
    have HBY := keep hby
    clear hby
    by_cases h128 : 128 ≤ (fn l 0).toNat
    · have h128' : (128 : Int) ≤ ((fn l 0).toNat : Int) := by omega
      have hres : Hid (9223372036854775808 ≤ big (l.take 8)) := by
        have := (fix_top (l := l) (by omega)).1
        rcases Nat.lt_or_ge (big (l.take 8)) 9223372036854775808 with h | h
        · have := this h; omega
        · exact h
      go_enter Tryd.func22, Tryd.ntmps22
      go_wp2
      go_ret3
      exact fix_no (.inr hres.out) (Below.refl _ _)
    · have h128' : ¬ ((128 : Int) ≤ ((fn l 0).toNat : Int)) := by omega
      have hres : Hid (big (l.take 8) < 9223372036854775808) := (fix_top (l := l) (by omega)).2 (by omega)
      have HF : Hid (∀ k, k < 8 → big (l.take k) * 256 + (fn l k).toNat < 9223372036854775808) := fun k hk => fix_lt (by omega) hk (by omega)
      go_enter Tryd.func22, Tryd.ntmps22
      go_wp2
      clear hcell0
      go_loopw [5, 6] (fun x i wr => ∃ k : Nat, k ≤ 8 ∧ i = .int .i64 (k : Int) ∧ x = .int .i64 ((big (l.take k) : Nat) : Int) ∧ Hid (Below w.heap.size w wr)) (fun _ i _ => 8 - (intOf i).toNat)
      case atStart => exact ⟨0, by omega, rfl, rfl, Below.refl _ _⟩
      case round =>
        obtain ⟨k, hk, rfl, rfl, hb⟩ := hrel
        by_cases hlt : k < 8
        · have hcell : wr.cell? ⟨b, off + k, none⟩ = some (.int .u8 ((fn l k).toNat : Int)) := by
            rw [hb.out.cell (p := ⟨b, off + k, none⟩) hbw]; exact HBY.out k (by omega)
          have g0 : (0 : Int) ≤ (k : Int) := by omega
          have g1 : (k : Int) < (m : Int) := by omega
          have hF := HF.out k hlt
          have hnext : Hid (big (l.take (k + 1)) = big (l.take k) * 256 + (fn l k).toNat) := big_take l k (by omega)
          obtain ⟨q, hq⟩ : ∃ q, big (l.take k) = q := ⟨_, rfl⟩
          obtain ⟨y, hy⟩ : ∃ y, fn l k = y := ⟨_, rfl⟩
          rw [hq] at hF hnext ⊢
          rw [hy] at hF hnext hcell
          clear hq hy
          go_wp2
          go_roundw
          case rel => exact ⟨k + 1, by omega, by go_num, by rw [hnext.out]; first | rfl | (congr 1; omega), hb⟩
          case measure => simp [intOf]; omega
        · obtain rfl : k = 8 := by omega
          have HT := keep ((HS.out.below hb.out).tailS 8 (by omega))
          have HT0 := keep (fun h => (HS.out.below hb.out).tail0 8 h)
          obtain ⟨q, hq⟩ : ∃ q, big (l.take 8) = q := ⟨_, rfl⟩
          have HQ := keep hq
          rw [hq]
          clear hq
          by_cases hck : c = 8
          · subst hck
            go_wp2_with (at_builtin; refine wpList_append_src rfl _ _ 22 rfl wr.heap.size i0 _ Tryd.underlying22 hi hz0 hz1 hz2 rfl _ 0 [] rfl (World.ownsRow_made wr #[] 0 (Nat.le_refl _) (by unfold maxLen; omega) rfl) _ 0 0 (l.drop 8) rfl ((HT0.out rfl).below ((Below.refl _ _).alloc (Nat.le_refl _) _)) (by omega) (by simp) ?_; intro v2 w2 ho2 hg2; simp only [Nat.zero_add, List.nil_append] at ho2; have hb2 := keep (((Below.refl wr.heap.size wr).alloc (Nat.le_refl _) _).grown hg2 (by simp) (fun j hj => by cases hj; exact Nat.le_refl _)); have ho3 := keep ho2; clear ho2 hg2)
            go_ret3
            have HN : New wr w2 v2 (m - 8) (l.drop 8) := by rw [show m - 8 = 0 by omega]; exact ⟨ho3.out, hb2.out⟩
            exact fix_ok (by omega) hres.out HQ.out (New.after hb.out HN)
          · go_wp2_with (at_builtin; refine wpList_append_src rfl _ _ 22 rfl wr.heap.size i0 _ Tryd.underlying22 hi hz0 hz1 hz2 rfl _ 0 [] rfl (World.ownsRow_made wr #[] 0 (Nat.le_refl _) (by unfold maxLen; omega) rfl) _ (m - 8) (c - 8) (l.drop 8) rfl (HT.out.below ((Below.refl _ _).alloc (Nat.le_refl _) _)) (by omega) (by simp) ?_; intro v2 w2 ho2 hg2; simp only [Nat.zero_add, List.nil_append] at ho2; have hb2 := keep (((Below.refl wr.heap.size wr).alloc (Nat.le_refl _) _).grown hg2 (by simp) (fun j hj => by cases hj; exact Nat.le_refl _)); have ho3 := keep ho2; clear ho2 hg2)
            go_ret3
            exact fix_ok (by omega) hres.out HQ.out (New.after hb.out ⟨ho3.out, hb2.out⟩)
theorem rtakeFix_any (ao : Option Addr) (m c : Nat) (l : List UInt8) (w : World) (hm : m ≤ 140737488355328) (hs : Src w ao m c l) :
    Calls Tryd.prog 22 #[.slice ao m c] w fun e w' => (∃ v, 8 ≤ m ∧ big (l.take 8) < 9223372036854775808 ∧ e = .returned (.tuple #[.int .i64 ((big (l.take 8) : Nat) : Int), v, .int .i64 0]) ∧ New w w' v (m - 8) (l.drop 8)) ∨ ((m < 8 ∨ 9223372036854775808 ≤ big (l.take 8)) ∧ e = .returned (.tuple #[.int .i64 0, .slice none 0 0, .int .i64 2]) ∧ Below w.heap.size w w') :=
  (rtakeFix_core ao m c l w hm hs).mono fun _ _ h => h
end Go.Proofs.YtomceheophnjnaaDoor
