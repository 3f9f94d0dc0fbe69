/- The walks of code.TakeNum. -/
import Derived.Test.YthaiodajfmbeaaaGreatR
import Derived.Test.YthaiodajfmbeaaaGreatG
import Derived.Test.YthaiodajfmbeaaaGreatCl
namespace Go.Proofs.YthaiodajfmbeaaaGreat
open Go.RowKit

theorem Src.none_of {w : World} {ao : Option Addr} {c : Nat} {l : List UInt8} (hl : l.length = 0) (h : ao = none → c = 0) : Src w ao 0 c l := by
  obtain rfl : l = [] := List.length_eq_zero_iff.1 hl
  exact Src.empty h
theorem Src.tail {w : World} {ao : Option Addr} {m c : Nat} {l : List UInt8} (h : Src w ao m c l) (k : Nat) (hk : k ≤ m) : Src w (Option.map (fun x => x.add k) ao) (m - k) (c - k) (l.drop k) := by
  have hl := h.len
  have hcap := h.cap
  rcases Nat.eq_zero_or_pos (m - k) with h0 | h0
  · rw [h0]
    refine Src.none_of (by rw [List.length_drop]; omega) (fun e => ?_)
    cases ao with
    | none => have := h.nil rfl; omega
    | some ad => cases e
  · obtain ⟨b, off, rfl, _, hby⟩ := h.form (by omega)
    have e : Option.map (fun x : Addr => x.add k) (some ⟨b, off, none⟩) = some ⟨b, off + k, none⟩ := by simp [Addr.add_mid]
    rw [e]
    refine Src.mk_bytes (by rw [List.length_drop]; omega) (by omega) (fun i hi => ?_)
    have e2 : off + k + i = off + (k + i) := by omega
    have e3 : fn (l.drop k) i = fn l (k + i) := by simp [fn, List.getD]
    rw [e2, e3]
    exact hby (k + i) (by omega)
theorem Src.tail0 {w : World} {ao : Option Addr} {m c : Nat} {l : List UInt8} (h : Src w ao m c l) (k : Nat) (hk : k = c) : Src w ao 0 0 (l.drop k) := by
  have hl := h.len
  have hcap := h.cap
  exact Src.none_of (by rw [List.length_drop]; omega) (fun _ => rfl)
theorem Src.tailS {w : World} {b off m c : Nat} {l : List UInt8} (h : Src w (some ⟨b, off, none⟩) m c l) (k : Nat) (hk : k ≤ m) : Src w (some ⟨b, off + k, none⟩) (m - k) (c - k) (l.drop k) := by
  have := h.tail k hk
  have e : Option.map (fun x : Addr => x.add k) (some ⟨b, off, none⟩) = some ⟨b, off + k, none⟩ := by simp [Addr.add_mid]
  rwa [e] at this
theorem Src.head {w : World} {ao : Option Addr} {m c : Nat} {l : List UInt8} (h : Src w ao m c l) (k : Nat) (hk : k ≤ m) : Src w ao k c (l.take k) := by
  have hl := h.len
  have hcap := h.cap
  refine ⟨by rw [List.length_take]; omega, by omega, fun e => ?_, fun ad had j u hu => h.cells ad had j u ?_⟩
  · have := h.nil e; omega
  · have e : bv (l.take k) = (bv l).take k := by simp [bv]
    rw [e, List.getElem?_take] at hu
    split at hu
    · exact hu
    · cases hu
set_option maxHeartbeats 1000000 in
set_option maxRecDepth 100000 in
theorem takeNum_any (ao : Option Addr) (m c : Nat) (l : List UInt8) (w : World) (hm : m ≤ 140737488355328) (hs : Src w ao m c l) :
    Calls Tryz.prog 54 #[.slice ao m c] w fun e w' => (∃ n r v, takeNum l = some (n, r) ∧ e = .returned (.tuple #[.int .i64 (n : Int), v, .int .i64 0]) ∧ New w w' v r.length r) ∨ (takeNum l = none ∧ e = .returned (.tuple #[.int .i64 0, .slice none 0 0, .int .i64 2]) ∧ Below w.heap.size w w') := by
  have HS := keep hs
  have hll := hs.len
  have hcap := hs.cap
  clear hs
  go_enter Tryz.func54, Tryz.ntmps54
  go_wp2_with fail
  refine (readGroups_any ao m c l _ hm HS.out).mono ?_
  rintro e w1 (⟨n, r, hn, rfl, hb1⟩ | ⟨hn, rfl, hb1⟩)
  · have HB := keep hb1
    have HN := keep hn
    obtain ⟨hn1, hn2⟩ := takeNum_some hn
    have hnp := num_pos n
    have e1 := congrArg List.length hn2
    rw [List.length_append, hll] at e1
    obtain ⟨k, hk⟩ : ∃ k, m - r.length = k := ⟨_, rfl⟩
    have hkn : k = (num n).length := by omega
    have hr : l.drop k = r := by rw [hkn, hn2, List.drop_left]
    have hrl : Hid (r.length = m - k) := by show _ = _; omega
    have hkm : k ≤ m := by omega
    obtain ⟨b, off, rfl, _, _⟩ := HS.out.form (by omega)
    rw [hk]
    have HT : Hid (Src w1 (some ⟨b, off + k, none⟩) (m - k) (c - k) r) := by
      have := (HS.out.below HB.out).tailS k hkm
      rwa [hr] at this
    have HT0 : Hid (k = c → Src w1 (some ⟨b, off, none⟩) 0 0 r) := fun h => by
      have := (HS.out.below HB.out).tail0 k h
      rwa [hr] at this
    clear hb1 hn hn2 hr hk hkn e1 hnp
    have hk0 : (0 : Int) ≤ (k : Int) := by omega
    have hkm' : (k : Int) ≤ (m : Int) := by omega
    by_cases hck : k = c
    · go_wp2_with fail
      refine (clone_any (some ⟨b, off, none⟩) 0 0 r w1 (by omega) (HT0.out hck)).mono ?_
      rintro e w2 ⟨v2, rfl, hn2⟩
      rw [show 0 = r.length by rw [hrl.out]; omega] at hn2
      have HN2 := keep (hn2.after HB.out)
      clear hn2
      go_wp2
      go_ret3
      exact .inl ⟨n, r, _, HN.out, rfl, HN2.out⟩
    · go_wp2_with fail
      refine (clone_any (some ⟨b, off + k, none⟩) (m - k) (c - k) r w1 (by omega) HT.out).mono ?_
      rintro e w2 ⟨v2, rfl, hn2⟩
      rw [← hrl.out] at hn2
      have HN2 := keep (hn2.after HB.out)
      clear hn2
      go_wp2
      go_ret3
      exact .inl ⟨n, r, _, HN.out, rfl, HN2.out⟩
  · have HB := keep hb1
    have HN := keep hn
    clear hb1 hn
    go_wp2
    go_ret3
    exact .inr ⟨HN.out, rfl, HB.out⟩

theorem toInt64 (N : Nat) (h : N < 18446744073709551616) : IntKind.i64.wrap (N : Int) = if N < 9223372036854775808 then (N : Int) else (N : Int) - 18446744073709551616 := by
  rw [IntKind.wrap_i64]
  split <;> omega

end Go.Proofs.YthaiodajfmbeaaaGreat
