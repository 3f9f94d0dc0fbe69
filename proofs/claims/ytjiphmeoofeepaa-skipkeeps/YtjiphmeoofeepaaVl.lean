/- The walk of awake. -/
import Derived.Test.YtjiphmeoofeepaaVk
import Derived.Test.YtjiphmeoofeepaaVi
import Derived.Test.YtjiphmeoofeepaaVj
import Derived.Lib.SlBytesConst
namespace Go.Proofs.Ytjiphmeoofeepaa
open Go.RowKit
open Sk (Ent)

theorem conv_constS (w : World) (C : Array Value) (n c : Nat) : (convert 26 26 (.slice (some ⟨w.heap.size, 0, none⟩) n c)).run Try.prog (w.alloc (.cells C 5)) = .ok (.slice (some ⟨w.heap.size, 0, none⟩) n c) (w.alloc (.cells C 5 (C.size, C.size + 1))) :=
  Lib.run_convert_bytes_const (P := Try.prog) w 26 5 C n c Try.underlying26 Try.underlying5
theorem Src.builtS (w : World) (b : UInt8) : Src (w.alloc (.cells #[.int .u8 (b.toNat : Int)] 5 (1, 2))) (some ⟨w.heap.size, 0, none⟩) 1 1 [b] :=
  Src.mk_bytes rfl (Nat.le_refl _) (fun i hi => by
    obtain rfl : i = 0 := by omega
    rw [cell_of_row _ _ _ _ _ _ (heap_alloc_new w _)]
    rfl)
def eA3 : Ent := ⟨[97], 3, false, []⟩
def eA5 : Ent := ⟨[97], 5, true, []⟩
def eB4 : Ent := ⟨[98], 4, false, []⟩
theorem kn1 : putE [] eA3 1 = [eA3] ∧ putN [] eA3 1 = 0 := ⟨rfl, rfl⟩
theorem kn2 : putE [eA3] eA5 3 = [eA5, eA3] ∧ putN [eA3] eA5 3 = 0 := ⟨rfl, rfl⟩
theorem kn3 : putE [eA5, eA3] eB4 2 = [eA5, eA3, eB4] ∧ putN [eA5, eA3] eB4 2 = 0 := ⟨rfl, rfl⟩
theorem kn4 : hitE [eA5, eA3, eB4] [97] 4 = some eA3 ∧ hitE [eA5, eA3, eB4] [97] 2 = none := ⟨rfl, rfl⟩
theorem kn5 : scan [eA5, eA3, eB4] [] [] 4 = [eA3, eB4] := rfl
theorem kn6 : Sk.size [eA5, eA3, eB4] = 27 := rfl
/-- An entry is put into a list, its key a row of one byte that was just laid. -/
theorem put_one {B b : Nat} {ns : List Nd} {w : World} (hM : LMem B w b ns) (hB : B ≤ w.heap.size) (hl : ns.length ≤ 1000) (k : UInt8) (s : Int) (g : Bool) (h : Int) :
    Calls Try.prog 7 #[.pointer (some ⟨b, 0, none⟩), .agg #[.slice (some ⟨w.heap.size, 0, none⟩) 1 1, .int .i64 s, .bool g, .slice none 0 0], .int .i64 h] (w.alloc (.cells #[.int .u8 (k.toNat : Int)] 5 (1, 2))) fun e w' => e = .returned (.int .i64 (putN (ents ns) ⟨[k], s, g, []⟩ h)) ∧ ∃ ns', LMem B w' b ns' ∧ ents ns' = putE (ents ns) ⟨[k], s, g, []⟩ h ∧ Below B w w' := by
  have hal : Below w.heap.size w (w.alloc (.cells #[.int .u8 (k.toNat : Int)] 5 (1, 2))) := (Below.refl _ _).alloc (Nat.le_refl _) _
  refine (put_any B b ns ⟨some ⟨w.heap.size, 0, none⟩, 1, none, 0, ⟨[k], s, g, []⟩⟩ h _ (hM.below hal) (Nat.le_trans hB hal.size) (by omega) ⟨Src.builtS w k, src_nil _⟩ (by show 1 ≤ _; omega) (by show 0 ≤ _; omega)).mono ?_
  rintro e w' ⟨he, ns', h1, h2, h3, _⟩
  exact ⟨he, ns', h1, h2, (hal.mono hB).trans (h3.below (Nat.le_trans hB hal.size) (fun q hq => hM.far q hq))⟩
theorem get_one {b : Nat} {ns : List Nd} {w : World} (hM : SMem w b ns) (k : UInt8) (s : Int) :
    Calls Try.prog 11 #[.pointer (some ⟨b, 0, none⟩), .slice (some ⟨w.heap.size, 0, none⟩) 1 1, .int .i64 s] (w.alloc (.cells #[.int .u8 (k.toNat : Int)] 5 (1, 2))) fun e w' => ∃ y : EV, e = .returned (.tuple #[ev y, .bool (hitE (ents ns) [k] s).isSome]) ∧ y.e = (hitE (ents ns) [k] s).getD zeroE ∧ Below w.heap.size w w' := by
  have hal : Below w.heap.size w (w.alloc (.cells #[.int .u8 (k.toNat : Int)] 5 (1, 2))) := (Below.refl _ _).alloc (Nat.le_refl _) _
  refine (get_any b ns (some ⟨w.heap.size, 0, none⟩) 1 [k] s _ (hM.below hal) (Src.builtS w k)).mono ?_
  rintro e w' ⟨y, h1, h2, _, h3⟩
  exact ⟨y, h1, h2, hal.trans (h3.mono hal.size)⟩
theorem scan_nil (b : Nat) (ns : List Nd) (s : Int) (w : World) (h : SMem w b ns) (hl : ns.length ≤ 1000000) :
    Calls Try.prog 12 #[.pointer (some ⟨b, 0, none⟩), .slice none 0 0, .slice none 0 0, .int .i64 s] w fun e w' => ∃ v ys, e = .returned v ∧ Ents w.heap.size w' v ys ∧ ys.map (·.e) = scan (ents ns) [] [] s ∧ Below w.heap.size w w' :=
  scan_mem b ns none 0 [] none 0 [] s w h hl (src_nil w) (src_nil w)
set_option maxHeartbeats 4000000 in
set_option maxRecDepth 100000 in
theorem awake_any (w : World) : Calls Try.prog 4 #[] w fun e w' => e = .returned (.bool true) ∧ Below w.heap.size w w' := by
  have kc := conv_constS
  go_enter Try.func4, Try.ntmps4
  go_wp2_with fail
  refine (new_raw w).mono ?_
  rintro e w1 ⟨rfl, hw1⟩
  have M1 : Hid (LMem w.heap.size w1 w.heap.size []) := by rw [hw1]; exact new_lmem w (Nat.le_refl _)
  have B1 : Hid (Below w.heap.size w w1) := by rw [hw1]; exact (Below.refl _ _).alloc (Nat.le_refl _) _
  clear hw1
  go_wp2_with fail
  refine (put_one M1.out B1.out.size (by decide) 97 3 false 1).mono ?_
  rintro e w2 ⟨rfl, n2, hM2, he2, hb2⟩
  have M2 := keep hM2
  have B2 := keep (B1.out.trans hb2)
  have E2 : Hid (ents n2 = [eA3]) := he2.trans kn1.1
  have z2 : putN (ents []) ⟨[97], 3, false, []⟩ 1 = 0 := kn1.2
  rw [z2]
  clear hM2 he2 hb2 z2
  have L2 : Hid (n2.length ≤ 1000) := by have h := ents_length n2; rw [E2.out] at h; show _ ≤ _; rw [← h]; decide
  go_wp2_with fail
  refine (put_one M2.out B2.out.size L2.out 97 5 true 3).mono ?_
  rintro e w3 ⟨rfl, n3, hM3, he3, hb3⟩
  rw [E2.out] at he3
  have M3 := keep hM3
  have B3 := keep (B2.out.trans hb3)
  have E3 : Hid (ents n3 = [eA5, eA3]) := he3.trans kn2.1
  have z3 : putN (ents n2) ⟨[97], 5, true, []⟩ 3 = 0 := by rw [E2.out]; exact kn2.2
  rw [z3]
  clear hM3 he3 hb3 z3
  have L3 : Hid (n3.length ≤ 1000) := by have h := ents_length n3; rw [E3.out] at h; show _ ≤ _; rw [← h]; decide
  go_wp2_with fail
  refine (put_one M3.out B3.out.size L3.out 98 4 false 2).mono ?_
  rintro e w4 ⟨rfl, n4, hM4, he4, hb4⟩
  rw [E3.out] at he4
  have M4 := keep hM4
  have B4 := keep (B3.out.trans hb4)
  have E4 : Hid (ents n4 = [eA5, eA3, eB4]) := he4.trans kn3.1
  have z4 : putN (ents n3) ⟨[98], 4, false, []⟩ 2 = 0 := by rw [E3.out]; exact kn3.2
  rw [z4]
  clear hM4 he4 hb4 z4
  have L4 : Hid (n4.length = 3) := by have h := ents_length n4; rw [E4.out] at h; exact h.symm
  go_wp2_with fail
  refine (all_mem w.heap.size n4 w4 M4.out.mem (by rw [L4.out]; decide)).mono ?_
  rintro e w5 ⟨v5, ys5, rfl, hE5, hm5, hb5⟩
  have hy5 : ys5.map (·.e) = [eA5, eA3, eB4] := hm5.trans E4.out
  have hl5 : ys5.length = 3 := by have h := congrArg List.length hy5; simpa using h
  obtain ⟨a5, c5, rfl, r5, _⟩ := RSrc.own entKind_ok hE5.row (fun y hy => (hE5.each y hy).held)
  rw [hl5] at r5 ⊢
  obtain ⟨g5, o5, rfl, _, _⟩ := r5.form entKind_ok (by decide)
  obtain ⟨y0, y1, y2, rfl⟩ : ∃ y0 y1 y2, ys5 = [y0, y1, y2] := by
    match ys5, hl5 with
    | [y0, y1, y2], _ => exact ⟨y0, y1, y2, rfl⟩
  simp only [List.map_cons, List.map_nil, List.cons.injEq, and_true] at hy5
  obtain ⟨q0, q1, q2⟩ := hy5
  have s0 := (ent_cells r5 (i := 0) rfl).2.2.1
  have s2 := (ent_cells r5 (i := 2) rfl).2.1
  rw [q0] at s0
  rw [q2] at s2
  have S0 : Hid (w5.cell? ⟨g5, o5 + 0 * 4 + 2, none⟩ = some (.bool true)) := s0
  have S2 : Hid (w5.cell? ⟨g5, o5 + 2 * 4 + 1, none⟩ = some (.int .i64 4)) := s2
  have B5 := keep hb5
  clear hE5 hm5 hl5 r5 s0 s2 q0 q1 q2 hb5
  have M5 := keep (M4.out.below B5.out)
  go_wp2_with fail
  refine (get_one M5.out.mem 97 4).mono ?_
  rintro e w6 ⟨y6, rfl, h6, hb6⟩
  have t6 : (hitE (ents n4) [97] 4).isSome = true := by rw [E4.out, kn4.1]; rfl
  have u6 : y6.e = eA3 := by rw [h6, E4.out, kn4.1]; rfl
  rw [t6]
  have B6 := keep (B5.out.trans (hb6.mono B5.out.size))
  have C6 := keep hb6
  have M6 := keep (M5.out.below hb6)
  obtain ⟨xkp, xkc, xvp, xvc, e6⟩ := y6
  simp only at u6
  subst u6
  unfold ev eA3
  simp only
  clear h6 hb6 t6
  obtain ⟨W7, hW7⟩ : ∃ W7, w6.alloc (.cells #[.slice xkp 1 xkc, .int .i64 3, .bool false, .slice xvp 0 xvc] 28) = W7 := ⟨_, rfl⟩
  have g7 : Hid (W7.cell? ⟨w6.heap.size, 1, none⟩ = some (.int .i64 3)) := by rw [← hW7]; exact cell_of_row _ _ _ _ _ _ (heap_alloc_new w6 _)
  have D7 : Hid (Below w6.heap.size w6 W7) := by rw [← hW7]; exact (Below.refl _ _).alloc (Nat.le_refl _) _
  have M7 := keep (M6.out.below D7.out)
  go_wp2_with fail
  refine (get_one M7.out.mem 97 2).mono ?_
  rintro e w8 ⟨y8, rfl, h8, hb8⟩
  have t8 : (hitE (ents n4) [97] 2).isSome = false := by rw [E4.out, kn4.2]; rfl
  have u8 : y8.e = zeroE := by rw [h8, E4.out, kn4.2]; rfl
  rw [t8]
  have D8 := keep (D7.out.trans (hb8.mono D7.out.size))
  have g8 : Hid (w8.cell? ⟨w6.heap.size, 1, none⟩ = some (.int .i64 3)) := below_cell hb8 g7.out
  have M8 := keep (M7.out.below hb8)
  obtain ⟨zkp, zkc, zvp, zvc, e8⟩ := y8
  simp only at u8
  subst u8
  unfold ev zeroE
  simp only
  clear h8 hb8 t8 hW7
  obtain ⟨W9, hW9⟩ : ∃ W9, w8.alloc (.cells #[.slice zkp 0 zkc, .int .i64 0, .bool false, .slice zvp 0 zvc] 28) = W9 := ⟨_, rfl⟩
  have D9 : Hid (Below w8.heap.size w8 W9) := by rw [← hW9]; exact (Below.refl _ _).alloc (Nat.le_refl _) _
  have M9 := keep (M8.out.below D9.out)
  go_wp2_with fail
  refine (scan_nil w.heap.size n4 4 W9 M9.out.mem (by rw [L4.out]; decide)).mono ?_
  rintro e wa ⟨va, ysa, rfl, hEa, hma, hba⟩
  rw [E4.out, kn5] at hma
  have hla : ysa.length = 2 := by have h := congrArg List.length hma; simpa using h
  obtain ⟨aa, ca, rfl, ra, _⟩ := RSrc.own entKind_ok hEa.row (fun y hy => (hEa.each y hy).held)
  rw [hla] at ra ⊢
  obtain ⟨ga, oa, rfl, _, _⟩ := ra.form entKind_ok (by decide)
  obtain ⟨v0, v1, rfl⟩ : ∃ v0 v1, ysa = [v0, v1] := by
    match ysa, hla with
    | [v0, v1], _ => exact ⟨v0, v1, rfl⟩
  simp only [List.map_cons, List.map_nil, List.cons.injEq, and_true] at hma
  have sa := (ent_cells ra (i := 0) rfl).2.1
  rw [hma.1] at sa
  have DA := keep (D8.out.trans ((D9.out.trans (hba.mono D9.out.size)).mono D8.out.size))
  have f1 : wa.cell? ⟨ga, oa + 1, none⟩ = some (.int .i64 3) := by simpa [eA3] using sa
  have f2 : wa.cell? ⟨w6.heap.size, 1, none⟩ = some (.int .i64 3) := below_cell (D9.out.trans (hba.mono D9.out.size)) g8.out
  have D5A := keep (C6.out.trans (DA.out.mono C6.out.size))
  have f3 : wa.cell? ⟨g5, o5 + 2, none⟩ = some (.bool true) := by have h := below_cell D5A.out S0.out; simpa using h
  have f4 : wa.cell? ⟨g5, o5 + 9, none⟩ = some (.int .i64 4) := by have h := below_cell D5A.out S2.out; simpa [Nat.add_assoc] using h
  have MA := keep (M9.out.below hba)
  have f5 : wa.cell? ⟨w.heap.size, 16, none⟩ = some (.int .i64 3) := by have h := MA.out.count; rw [L4.out] at h; exact h
  have f6 : wa.cell? ⟨w.heap.size, 17, none⟩ = some (.int .i64 27) := by have h := MA.out.size; rw [E4.out, kn6] at h; exact h
  have BA := keep (B4.out.trans ((B5.out.trans (D5A.out.mono B5.out.size)).mono B4.out.size))
  clear hEa hma hba hla ra sa hW9
  go_wp2_with fail
  refine (count_any w.heap.size 3 wa f5).mono ?_
  rintro e wb ⟨rfl, hwb⟩
  have hwb2 := hwb.symm
  subst hwb2
  go_wp2_with fail
  refine (size_any w.heap.size 27 wa f6).mono ?_
  rintro e wb ⟨rfl, hwb⟩
  have hwb2 := hwb.symm
  subst hwb2
  go_wp2
  go_ret
  exact ⟨rfl, BA.out⟩
end Go.Proofs.Ytjiphmeoofeepaa
