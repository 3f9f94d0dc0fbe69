/- The walk of HashCollides. -/
import Derived.Test.YtelebhcaljepaabDoorPn
import Derived.Test.YtelebhcaljepaabDoorPp
import Derived.Test.YtelebhcaljepaabDoorKo
namespace Go.Proofs.YtelebhcaljepaabDoor
open Go.RowKit

theorem conv_src {w : World} {ao : Option Addr} {m c : Nat} {l : List UInt8} (h : Src w ao m c l) : (convert 24 9 (.slice ao m c)).run Tryd.prog w = .ok (.string ⟨l.toArray⟩) w := by
  rcases Nat.eq_zero_or_pos m with h0 | h0
  · subst h0
    have hl : l = [] := List.length_eq_zero_iff.1 h.len
    subst hl
    rw [run_convert_bytes_string w 24 9 5 _ 0 c Tryd.underlying24 Tryd.underlying5 Tryd.underlying9]
    cases ao <;> simp [Conv.bytesToString, loadCells]
    all_goals rfl
  · obtain ⟨b, off, e, _, hby⟩ := h.form h0
    cases e
    have hl := h.len
    have := run_convert_bytes_arg (P := Tryd.prog) w 24 5 Tryd.underlying24 Tryd.underlying5 b off m c (l.map fun b => (b.toNat : Int)) (by simpa using h.len) (fun i hi => by
      rw [hby i hi]
      have : i < l.length := by omega
      simp [fn, List.getD, this]) 9 Tryd.underlying9
    rwa [strOfNums_bytes] at this
set_option maxHeartbeats 4000000 in
set_option maxRecDepth 100000 in
theorem hashCollides_walk (i n : Int) (a : List UInt8) (ap : Option Addr) (am ac : Nat) (pa : List (List UInt8)) (b : List UInt8) (bp : Option Addr) (bm bc : Nat) (pb : List (List UInt8)) (w : World) (hL : Ld w) (ha : RSrc strKind w ap am ac pa) (hb : RSrc strKind w bp bm bc pb) (ham : am ≤ 4611686018427387904) (hbm : bm ≤ 4611686018427387904) :
    Calls Tryd.prog 3 #[.int .i64 i, .int .i64 n, .string ⟨a.toArray⟩, .slice ap am ac, .string ⟨b.toArray⟩, .slice bp bm bc] w fun e w' => e = .returned (.bool true) ∧ Below w.heap.size w w' := by
  have HLd := keep hL
  have AW := keep (awake_any w hL)
  have CO : Hid (∀ w', Below w.heap.size w w' → Calls Tryd.prog 8 #[.int .i64 i, .int .i64 n, .string ⟨a.toArray⟩, .slice ap am ac, .string ⟨b.toArray⟩, .slice bp bm bc] w' (ColB w' (collL i n a pa b pb))) := fun w' h => collide_any i n a ap am ac pa b bp bm bc pb w' (HLd.out.below h) (ha.below strKind_ok h) (hb.below strKind_ok h) ham hbm
  have RC : Hid (∀ w', Below w.heap.size w w' → Calls Tryd.prog 9 #[.int .i64 i, .int .i64 n, .string ⟨a.toArray⟩, .slice ap am ac, .string ⟨b.toArray⟩, .slice bp bm bc] w' (ColA w' (collL i n a pa b pb))) := fun w' h => rcollide_any i n a ap am ac pa b bp bm bc pb w' (ha.below strKind_ok h) (hb.below strKind_ok h) ham hbm
  obtain ⟨r, hr⟩ : ∃ r, collL i n a pa b pb = r := ⟨_, rfl⟩
  rw [hr] at CO RC
  clear hL ha hb ham hbm hr
  cases r with
  | none =>
    go_enter Tryd.func3, Tryd.ntmps3
    go_wp2_with fail
    refine AW.out.mono ?_
    rintro e w1 ⟨rfl, hb1⟩
    have B1 := keep hb1
    clear hb1 AW
    go_wp2_with fail
    refine (CO.out w1 B1.out).mono ?_
    rintro e w2 ⟨rfl, hb2⟩
    have B2 := keep (B1.out.trans (hb2.mono B1.out.size))
    clear hb2 CO
    go_wp2_with fail
    refine (RC.out w2 B2.out).mono ?_
    rintro e w3 ⟨rfl, hb3⟩
    have B3 := keep (B2.out.trans (hb3.mono B2.out.size))
    clear hb3 RC
    have v1 := conv_src (Src.empty (w := w3) (ao := none) (c := 0) (fun _ => rfl))
    go_wp2
    go_ret
    exact ⟨rfl, B3.out⟩
  | some lq =>
    obtain ⟨l, q⟩ := lq
    have CO2 : Hid (∀ w', Below w.heap.size w w' → Calls Tryd.prog 8 #[.int .i64 i, .int .i64 n, .string ⟨a.toArray⟩, .slice ap am ac, .string ⟨b.toArray⟩, .slice bp bm bc] w' fun e w'' => (∃ a1 m1 c1 a2 m2 c2, e = .returned (.tuple #[.slice a1 m1 c1, .slice a2 m2 c2, .bool true]) ∧ Src w'' a1 m1 c1 (1 :: l) ∧ Src w'' a2 m2 c2 (1 :: q) ∧ m1 ≤ 1000 ∧ m2 ≤ 1000 ∧ c1 ≤ maxLen ∧ c2 ≤ maxLen) ∧ Below w'.heap.size w' w'') := fun w' h => CO.out w' h
    have RC2 : Hid (∀ w', Below w.heap.size w w' → Calls Tryd.prog 9 #[.int .i64 i, .int .i64 n, .string ⟨a.toArray⟩, .slice ap am ac, .string ⟨b.toArray⟩, .slice bp bm bc] w' fun e w'' => (∃ a1 m1 c1 a2 m2 c2, e = .returned (.tuple #[.slice a1 m1 c1, .slice a2 m2 c2, .bool true]) ∧ Src w'' a1 m1 c1 (1 :: l) ∧ Src w'' a2 m2 c2 (1 :: q)) ∧ Below w'.heap.size w' w'') := fun w' h => RC.out w' h
    obtain ⟨X, hX⟩ : ∃ X, (1 :: l : List UInt8) = X := ⟨_, rfl⟩
    obtain ⟨Y, hY⟩ : ∃ Y, (1 :: q : List UInt8) = Y := ⟨_, rfl⟩
    rw [hX, hY] at CO2 RC2
    clear hX hY CO RC
    go_enter Tryd.func3, Tryd.ntmps3
    go_wp2_with fail
    refine AW.out.mono ?_
    rintro e w1 ⟨rfl, hb1⟩
    have B1 := keep hb1
    clear hb1 AW
    go_wp2_with fail
    refine (CO2.out w1 B1.out).mono ?_
    rintro e w2 ⟨⟨a1, m1, c1, a2, m2, c2, rfl, hs1, hs2, _⟩, hb2⟩
    have B2 := keep (B1.out.trans (hb2.mono B1.out.size))
    have S1 := keep hs1
    have S2 := keep hs2
    clear hb2 CO2 hs1 hs2
    go_wp2_with fail
    refine (RC2.out w2 B2.out).mono ?_
    rintro e w3 ⟨⟨a3, m3, c3, a4, m4, c4, rfl, hs3, hs4⟩, hb3⟩
    have B3 := keep (B2.out.trans (hb3.mono B2.out.size))
    have v1 := conv_src (S1.out.below hb3)
    have v2 := conv_src (S2.out.below hb3)
    have v3 := conv_src hs3
    have v4 := conv_src hs4
    clear hb3 RC2 hs3 hs4
    go_wp2
    go_ret
    exact ⟨rfl, B3.out⟩
end Go.Proofs.YtelebhcaljepaabDoor
