/- The walk of code.PutNum. -/
/- The walks of the document's PutNum and of Same. -/
/- The walks of code.lay over a text, code.PutText, and of the document's PutText. -/
/- The walks of numBytes, noteBytes and Encode. -/
import Derived.Test.YthnebhddakfadaaGreatDoorJoinPf
import Derived.Lib.AppendStr
import Derived.Test.YthnebhddakfadaaGreatDoorJoinHm
namespace Go.Proofs.YthnebhddakfadaaGreatDoor
open Go.RowKit

set_option maxHeartbeats 1000000 in
set_option maxRecDepth 100000 in
theorem putNum_any (ao : Option Addr) (m c : Nat) (l : List UInt8) (n : Int) (w : World) (hm : m + 9 ≤ 140737488355328) (hs : Src w ao m c l) :
    Calls Tryz.prog 100 #[.slice ao m c, .int .i64 n] w fun e w' => ∃ v, e = .returned v ∧ New w w' v (m + (num (cl n)).length) (l ++ num (cl n)) := by
  have h9 := num9 n
  have HS := keep hs
  clear hs
  go_enter Tryz.func100, Tryz.ntmps100
  go_wp2_with fail
  refine (groups_any n _).mono ?_
  rintro e w1 ⟨v1, rfl, hn1⟩
  have HN := keep hn1
  obtain ⟨a1, c1, rfl, hs1, _⟩ := hn1.src
  have HS1 := keep hs1
  clear hs1 hn1
  go_wp2_with fail
  refine (layB_any ao m c l a1 _ c1 _ w1 (by omega) (HS.out.below HN.out.2) HS1.out).mono ?_
  rintro e w2 ⟨v2, rfl, hn2⟩
  have HN2 := keep (hn2.after HN.out.2)
  clear hn2
  go_wp2
  go_ret
  exact ⟨_, rfl, HN2.out⟩

end Go.Proofs.YthnebhddakfadaaGreatDoor
namespace Go.Proofs.YthnebhddakfadaaGreatDoor
open Go.RowKit

end Go.Proofs.YthnebhddakfadaaGreatDoor
namespace Go.Proofs.YthnebhddakfadaaGreatDoor
open Go.RowKit

theorem cl_of' (m : Nat) (h : m ≤ 140737488355328) : cl (m : Int) = m := by unfold cl; omega
theorem num_le' (n : Nat) (h : n ≤ 4611686018427387903) : (num n).length ≤ 9 := len_le 8 _ (by have e : (128 : Nat) ^ (8 + 1) = 9223372036854775808 := rfl; omega)
set_option maxHeartbeats 1000000 in
set_option maxRecDepth 100000 in
theorem layS_any (ao : Option Addr) (m c : Nat) (l : List UInt8) (s : ByteArray) (m2 : Nat) (l2 : List UInt8) (w : World) (hl2 : l2.length = m2) (hsl : s = ⟨l2.toArray⟩) (hm : m + m2 ≤ 140737488355328) (hs : Src w ao m c l) :
    Calls Tryz.prog 211 #[.slice ao m c, .string s] w fun e w' => ∃ v, e = .returned v ∧ New w w' v (m + m2) (l ++ l2) := by
  obtain ⟨i0, hi, hz0, hz1, hz2⟩ := info_parts info5
  have HS := keep hs
  have hsz : s.size = m2 := by rw [hsl]; exact hl2
  have HSL := keep hsl
  clear hs hsl
  go_enter Tryz.func211, Tryz.ntmps211
  go_wp2_with (first
    | (at_make; refine wpList_make_own _ rfl _ _ 25 rfl w.heap.size 5 i0 (.int .u8 0) 1 Tryz.underlying25 hi hz0 hz1 .i64 .i64 _ (m + m2) rfl rfl (by omega) (by rw [hz2]; omega) (by unfold maxLen; omega) (Nat.le_refl _) ?_; intro w1 hown hgrow; have hb1 := keep ((Below.refl w.heap.size w).grown hgrow (Nat.le_refl _) (fun k h => by cases h)); have ho1 := keep hown; clear hown hgrow)
    | (at_builtin; refine wpList_append_own_string_if (by rfl) _ _ 25 9 rfl w.heap.size i0 Tryz.underlying25 Tryz.underlying9 hi hz0 hz1 hz2 _ m l l2 m2 rfl ho2.out (by rw [HSL.out]; rfl) hl2 (by omega) hb2.out.size ?_; intro v3 w3 ho3 hg3; have hb3 := keep (hb2.out.grown hg3 hb2.out.size (fun j hj => (ho2.out.lt j hj).1)); have ho3' := keep ho3; clear ho3 hg3 ho2)
    | (at_builtin; refine wpList_append_src rfl _ _ 25 rfl w.heap.size i0 _ Tryz.underlying25 hi hz0 hz1 hz2 rfl _ 0 [] rfl ho1.out _ m c l rfl (HS.out.below hb1.out) (by omega) hb1.out.size ?_; intro v2 w2 ho2' hg2; have hb2 := keep (hb1.out.grown hg2 hb1.out.size (fun j hj => (ho1.out.lt j hj).1)); have ho2 := keep ho2'; simp only [Nat.zero_add, List.nil_append] at ho2; clear ho2' hg2 ho1 hb1))
  go_ret
  exact ⟨_, rfl, ho3'.out, hb3.out⟩

set_option maxHeartbeats 1000000 in
set_option maxRecDepth 100000 in
theorem putText_any (ao : Option Addr) (m c : Nat) (l : List UInt8) (s : ByteArray) (m2 : Nat) (l2 : List UInt8) (w : World) (hl2 : l2.length = m2) (hsl : s = ⟨l2.toArray⟩) (hm : m + m2 + 9 ≤ 140737488355328) (hs : Src w ao m c l) :
    Calls Tryz.prog 178 #[.slice ao m c, .string s] w fun e w' => ∃ v, e = .returned v ∧ New w w' v (m + ((num m2).length + m2)) (l ++ (num m2 ++ l2)) := by
  have h9 := num_le' m2 (by omega)
  have KP := keep (putNum_any ao m c l (m2 : Int) w (by omega) hs)
  rw [cl_of' m2 (by omega)] at KP
  have hsz : s.size = m2 := by rw [hsl]; exact hl2
  have HSL := keep hsl
  clear hs hsl
  go_enter Tryz.func178, Tryz.ntmps178
  go_wp2_with fail
  go_fit KP.out
  rintro e w1 ⟨v1, rfl, hn1⟩
  obtain ⟨a1, c1, rfl, hs1, _⟩ := hn1.src
  have b1 := keep hn1.2
  have S1 := keep hs1
  clear hn1 hs1 KP
  go_wp2_with fail
  refine (layS_any a1 _ c1 _ s m2 l2 w1 hl2 HSL.out (by omega) S1.out).mono ?_
  rintro e w2 ⟨v2, rfl, hn2⟩
  have N2 := keep (hn2.after b1.out)
  clear hn2 b1 S1
  go_wp2
  go_ret
  refine ⟨_, rfl, ?_⟩
  rw [← Nat.add_assoc, ← List.append_assoc]
  exact N2.out

end Go.Proofs.YthnebhddakfadaaGreatDoor
namespace Go.Proofs.YthnebhddakfadaaGreatDoor.Ed
/-- Numbers as bytes. -/
def numsB (zs : List Int) : List UInt8 := zs.flatMap fun z => num (cl z)
theorem numsB_more (zs : List Int) (z : Int) : numsB (zs ++ [z]) = numsB zs ++ num (cl z) := by unfold numsB; rw [List.flatMap_append]; simp
/-- A note's bytes. -/
def noteB (m : Nt) : List UInt8 := numsB [m.num, m.level, m.count] ++ (num m.first.length ++ m.first) ++ (num m.last.length ++ m.last)
def notesB (l : List Nt) : List UInt8 := l.flatMap noteB
theorem notesB_more (l : List Nt) (m : Nt) : notesB (l ++ [m]) = notesB l ++ noteB m := by unfold notesB; rw [List.flatMap_append]; simp
/-- A version's bytes. -/
def verB (v : Ver) : List UInt8 := numsB [v.gen, v.next, v.log, v.seq, (v.tabs.length : Int)] ++ notesB v.tabs
theorem numsB_len : ∀ (zs : List Int), (numsB zs).length ≤ 9 * zs.length
  | [] => Nat.le_refl _
  | z :: t => by
    have ih := numsB_len t
    have h9 := num9 z
    unfold numsB at ih ⊢
    rw [List.flatMap_cons, List.length_append, List.length_cons]
    omega
theorem noteB_len {m : Nt} (h1 : m.first.length ≤ 64) (h2 : m.last.length ≤ 64) : (noteB m).length ≤ 173 := by
  unfold noteB
  have h := numsB_len [m.num, m.level, m.count]
  have a := num_le' m.first.length (by omega)
  have b := num_le' m.last.length (by omega)
  simp only [List.length_append, List.length_cons, List.length_nil] at h ⊢
  omega
theorem notesB_len : ∀ {l : List Nt}, (∀ m ∈ l, m.first.length ≤ 64 ∧ m.last.length ≤ 64) → (notesB l).length ≤ 173 * l.length
  | [], _ => Nat.le_refl _
  | m :: t, h => by
    have ih := notesB_len (l := t) (fun x hx => h x (List.mem_cons_of_mem _ hx))
    have hm := noteB_len (h m (by simp)).1 (h m (by simp)).2
    unfold notesB at ih ⊢
    rw [List.flatMap_cons, List.length_append, List.length_cons]
    omega
end Go.Proofs.YthnebhddakfadaaGreatDoor.Ed
namespace Go.Proofs.YthnebhddakfadaaGreatDoor
open Go.RowKit
open Ed (Nt)

theorem New.base {w w1 w2 : World} {v : Value} {n : Nat} {l : List UInt8} (hb : Below w.heap.size w w1) (h : New w1 w2 v n l) : New w w2 v n l := ⟨own_base h.1 (fun g hg => Nat.le_trans hb.size (h.1.lt g hg).1), hb.trans (h.2.mono hb.size)⟩
theorem take_moreI {l : List Int} {k : Nat} {m : Int} (h : l[k]? = some m) : l.take (k + 1) = l.take k ++ [m] := by rw [List.take_add_one, h]; rfl
set_option maxHeartbeats 2000000 in
set_option maxRecDepth 100000 in
theorem numBytes_any (ao : Option Addr) (n c : Nat) (zs : List Int) (w : World) (hsrc : RSrc inK w ao n c zs) (hn : n ≤ 5) :
    Calls Tryz.prog 143 #[.slice ao n c] w fun e w' => ∃ v, e = .returned v ∧ New w w' v (Ed.numsB zs).length (Ed.numsB zs) := by
  have SRC := keep hsrc
  have HN := keep hsrc.len
  have FULL : Hid (zs.take n = zs) := List.take_of_length_le (by rw [hsrc.len]; exact Nat.le_refl _)
  clear hsrc
  go_enter Tryz.func143, Tryz.ntmps143
  go_wp2
  go_loopw [3, 8] (fun vb i wr => ∃ (k : Nat) (a : Option Addr) (L c3 : Nat), k ≤ n ∧ L ≤ 9 * k ∧ vb = .slice a L c3 ∧ i = .int .i64 (k : Int) ∧ Hid (New w wr (.slice a L c3) L (Ed.numsB (zs.take k)))) (fun _ i _ => n - (intOf i).toNat)
  case atStart => exact ⟨0, none, 0, 0, Nat.zero_le _, Nat.zero_le _, rfl, rfl, World.ownsRow_nil _ _ _ _, Below.refl _ _⟩
  case round =>
    obtain ⟨k, a, L, c3, hk, hL, rfl, rfl, hI⟩ := hrel
    by_cases hkn : k < n
    · obtain ⟨b, off, rfl, _, _⟩ := SRC.out.form inK_ok (by omega)
      obtain ⟨z, hz⟩ : ∃ z, zs[k]? = some z := ⟨zs[k]'(by rw [HN.out]; exact hkn), List.getElem?_eq_getElem _⟩
      have ck : wr.cell? ⟨b, off + k, none⟩ = some (.int .i64 z) := by
        have := int_cell (SRC.out.below inK_ok hI.out.2) hkn
        rw [List.getD_eq_getElem?_getD, hz] at this
        exact this
      have TM : Hid (Ed.numsB (zs.take (k + 1)) = Ed.numsB (zs.take k) ++ num (cl z)) := by show _ = _; rw [take_moreI hz, Ed.numsB_more]
      obtain ⟨a2, c2, e2, hs2, _⟩ := hI.out.src
      injection e2 with e3 e4 e5
      subst e3
      subst e5
      have PN := keep (putNum_any a L c3 (Ed.numsB (zs.take k)) z wr (by omega) hs2)
      have N9 := keep (num9 z)
      clear hz hs2 e4
      have ll : (k : Int) < (n : Int) := by omega
      have l0 : (0 : Int) ≤ (k : Int) := by omega
      go_wp2_with fail
      refine PN.out.mono ?_
      rintro e w2 ⟨v2, rfl, hn2⟩
      have N2 := keep (hn2.base hI.out.2)
      obtain ⟨a4, c4, rfl, _, _⟩ := hn2.src
      obtain ⟨Q, hQ⟩ : ∃ Q, L + (num (cl z)).length = Q := ⟨_, rfl⟩
      have hQ9 : Q ≤ 9 * (k + 1) := by have := N9.out; omega
      rw [hQ] at N2 ⊢
      clear hn2 hQ PN ck
      go_wp2
      go_roundw
      case rel => exact ⟨k + 1, a4, Q, c4, by omega, by omega, rfl, by go_num, by rw [TM.out]; exact N2.out⟩
      case measure => simp [intOf]; omega
    · obtain rfl : k = n := by omega
      have N1 := keep hI.out
      rw [FULL.out] at N1
      have EL := N1.out.len
      have HEL := keep EL
      clear EL hI
      go_wp2
      go_ret
      exact ⟨_, rfl, by rw [HEL.out]; exact N1.out⟩
set_option maxHeartbeats 4000000 in
set_option maxRecDepth 100000 in
theorem noteBytes_any (x : MV) (w : World) (hx : metaKind.held w x) (hf : x.m.first.length ≤ 64) (hl : x.m.last.length ≤ 64) :
    Calls Tryz.prog 144 #[mv x] w fun e w' => ∃ v, e = .returned v ∧ New w w' v (Ed.noteB x.m).length (Ed.noteB x.m) := by
  obtain ⟨xfp, xfc, xlp, xlc, ⟨xnum, xlevel, xcount, xfirst, xlast⟩⟩ := x
  have XF : Hid (Src w xfp xfirst.length xfc xfirst) := hx.1
  have XL : Hid (Src w xlp xlast.length xlc xlast) := hx.2
  simp only at hf hl
  have HF := keep hf
  have HLL := keep hl
  clear hx hf hl
  unfold mv
  simp only
  obtain ⟨W1, hW1⟩ : ∃ Wn, w.alloc (.cells #[.int .i64 xnum, .int .i64 xlevel, .int .i64 xcount, .slice xfp xfirst.length xfc, .slice xlp xlast.length xlc] 113) = Wn := ⟨_, rfl⟩
  have b1 : Hid (Below w.heap.size w W1) := by rw [← hW1]; exact (Below.refl _ _).alloc (Nat.le_refl _) _
  have g1 : Hid (W1.heap[w.heap.size]? = some (.cells #[.int .i64 xnum, .int .i64 xlevel, .int .i64 xcount, .slice xfp xfirst.length xfc, .slice xlp xlast.length xlc] 113)) := by rw [← hW1]; exact heap_alloc_new w _
  have CX : Hid (∀ w', Below W1.heap.size W1 w' → w'.cell? ⟨w.heap.size, 0, none⟩ = some (.int .i64 xnum) ∧ w'.cell? ⟨w.heap.size, 1, none⟩ = some (.int .i64 xlevel) ∧ w'.cell? ⟨w.heap.size, 2, none⟩ = some (.int .i64 xcount) ∧ w'.cell? ⟨w.heap.size, 3, none⟩ = some (.slice xfp xfirst.length xfc) ∧ w'.cell? ⟨w.heap.size, 4, none⟩ = some (.slice xlp xlast.length xlc)) := fun w' hb => ⟨belowE hb (cell_of_row _ _ _ _ _ _ g1.out), belowE hb (cell_of_row _ _ _ _ _ _ g1.out), belowE hb (cell_of_row _ _ _ _ _ _ g1.out), belowE hb (cell_of_row _ _ _ _ _ _ g1.out), belowE hb (cell_of_row _ _ _ _ _ _ g1.out)⟩
  have SF : Hid (∀ w', Below W1.heap.size W1 w' → _) := fun w' hb => convM (XF.out.below (b1.out.trans (hb.mono b1.out.size)))
  have SL : Hid (∀ w', Below W1.heap.size W1 w' → _) := fun w' hb => convM (XL.out.below (b1.out.trans (hb.mono b1.out.size)))
  obtain ⟨W2, hW2⟩ : ∃ Wn, W1.alloc (.cells #[.int .i64 xnum, .int .i64 xlevel, .int .i64 xcount] 3) = Wn := ⟨_, rfl⟩
  have l2 : Hid (Below W1.heap.size W1 W2) := by rw [← hW2]; exact (Below.refl _ _).alloc (Nat.le_refl _) _
  have s2 : Hid (RSrc inK W2 (some ⟨W1.heap.size, 0, none⟩) 3 3 [xnum, xlevel, xcount]) := by rw [← hW2]; exact isrc_new W1 [xnum, xlevel, xcount] 3
  have NB := keep (numBytes_any (some ⟨W1.heap.size, 0, none⟩) 3 3 [xnum, xlevel, xcount] W2 s2.out (by omega))
  have NL := keep (Ed.numsB_len [xnum, xlevel, xcount])
  have NF : Hid ((num xfirst.length).length ≤ 9) := num_le' xfirst.length (by have := HF.out; omega)
  have EQ : Hid (Ed.noteB ⟨xnum, xlevel, xcount, xfirst, xlast⟩ = Ed.numsB [xnum, xlevel, xcount] ++ (num xfirst.length ++ xfirst) ++ (num xlast.length ++ xlast)) := rfl
  rw [EQ.out]
  clear EQ
  obtain ⟨NS, hNS⟩ : ∃ NS, Ed.numsB [xnum, xlevel, xcount] = NS := ⟨_, rfl⟩
  rw [hNS] at NB NL ⊢
  clear hNS
  obtain ⟨c0, c1, c2, c3, c4⟩ := CX.out W1 (Below.refl _ _)
  go_enter Tryz.func144, Tryz.ntmps144
  go_wp2_with fail
  refine NB.out.mono ?_
  rintro e w3 ⟨v3, rfl, hn3⟩
  have L3 := keep (l2.out.trans (hn3.2.mono l2.out.size))
  have B3 := keep (b1.out.trans (L3.out.mono b1.out.size))
  obtain ⟨qa, qc, rfl, hs3, _⟩ := hn3.src
  have S3 := keep hs3
  obtain ⟨Q, hQ⟩ : ∃ Q, NS.length = Q := ⟨_, rfl⟩
  have HQ := keep hQ
  rw [hQ] at S3 NL ⊢
  have U1 : Hid (∀ w', Below w3.heap.size w3 w' → Below W1.heap.size W1 w') := fun w' hb => L3.out.trans (hb.mono L3.out.size)
  have PT1 : Hid (∀ w', Below w3.heap.size w3 w' → _) := fun w' hb => putText_any qa Q qc NS ⟨xfirst.toArray⟩ xfirst.length xfirst w' rfl rfl (by have := NL.out; have := HF.out; simp only [List.length_cons, List.length_nil] at *; omega) (S3.out.below hb)
  have PT2 : Hid (∀ (a4 : Option Addr) (c4 M4 : Nat) (w' : World), Below w3.heap.size w3 w' → Src w' a4 M4 c4 (NS ++ (num xfirst.length ++ xfirst)) → M4 + xlast.length + 9 ≤ 140737488355328 → _) := fun a4 c4 M4 w' _ h hle => putText_any a4 M4 c4 (NS ++ (num xfirst.length ++ xfirst)) ⟨xlast.toArray⟩ xlast.length xlast w' rfl rfl hle h
  have hQ27 : Q ≤ 27 := by have := NL.out; simp only [List.length_cons, List.length_nil] at this; omega
  have hf64 := HF.out
  have hl64 := HLL.out
  clear hn3 hs3 hQ NB hW1 hW2 c0 c1 c2 c3 c4
  go_wp2_with fail
  refine wp_region_held_drew (S := fun w' => Below w3.heap.size w3 w') (by kernel_rfl) ((Below.refl _ _).drew) (fun hHeld => ?_)
  refine takeH (i := 0) 12 (v := .slice qa Q qc) rfl rfl (by kernel_rfl) (by kernel_rfl) (by kernel_rfl) (fun _ _ _ h => h) (Or.inl ⟨by rfl, ?_⟩) (by assumption) ?_
  · intro w' hSw'
    go_simp
  simp only [Act.put, List.setIfInBounds_toArray, List.set_cons_zero, List.set_cons_succ]
  refine takeH (i := 1) 13 (v := .pointer (some ⟨w.heap.size, 3, none⟩)) rfl rfl (by kernel_rfl) (by kernel_rfl) (by kernel_rfl) (fun _ _ _ h => h) (Or.inl ⟨by rfl, ?_⟩) (by assumption) ?_
  · intro w' hSw'
    go_simp
  simp only [Act.put, List.setIfInBounds_toArray, List.set_cons_zero, List.set_cons_succ]
  refine takeH (i := 2) 14 (v := .slice xfp xfirst.length xfc) rfl rfl (by kernel_rfl) (by kernel_rfl) (by kernel_rfl) (fun _ _ _ h => h) (Or.inl ⟨by rfl, ?_⟩) (by assumption) ?_
  · intro w' hSw'
    obtain ⟨d0, d1, d2, d3, d4⟩ := CX.out w' (U1.out w' hSw')
    go_simp
  simp only [Act.put, List.setIfInBounds_toArray, List.set_cons_zero, List.set_cons_succ]
  refine takeH (i := 3) 15 (v := .string ⟨xfirst.toArray⟩) rfl rfl (by kernel_rfl) (by kernel_rfl) (by kernel_rfl) (fun _ _ _ h => h) (Or.inl ⟨by rfl, ?_⟩) (by assumption) ?_
  · intro w' hSw'
    have cv := SF.out w' (U1.out w' hSw')
    go_simp
  simp only [Act.put, List.setIfInBounds_toArray, List.set_cons_zero, List.set_cons_succ]
  refine takeH (i := 5) 17 (v := .pointer (some ⟨w.heap.size, 4, none⟩)) rfl rfl (by kernel_rfl) (by kernel_rfl) (by kernel_rfl) (fun _ _ _ h => h) (Or.inl ⟨by rfl, ?_⟩) (by assumption) ?_
  · intro w' hSw'
    go_simp
  simp only [Act.put, List.setIfInBounds_toArray, List.set_cons_zero, List.set_cons_succ]
  refine takeH (i := 6) 18 (v := .slice xlp xlast.length xlc) rfl rfl (by kernel_rfl) (by kernel_rfl) (by kernel_rfl) (fun _ _ _ h => h) (Or.inl ⟨by rfl, ?_⟩) (by assumption) ?_
  · intro w' hSw'
    obtain ⟨d0, d1, d2, d3, d4⟩ := CX.out w' (U1.out w' hSw')
    go_simp
  simp only [Act.put, List.setIfInBounds_toArray, List.set_cons_zero, List.set_cons_succ]
  refine takeH (i := 7) 19 (v := .string ⟨xlast.toArray⟩) rfl rfl (by kernel_rfl) (by kernel_rfl) (by kernel_rfl) (fun _ _ _ h => h) (Or.inl ⟨by rfl, ?_⟩) (by assumption) ?_
  · intro w' hSw'
    have cv := SL.out w' (U1.out w' hSw')
    go_simp
  simp only [Act.put, List.setIfInBounds_toArray, List.set_cons_zero, List.set_cons_succ]
  refine wpAnyH_ready (rs := [4]) (by kernel_rfl) (by simp) ?_
  refine AllReadyH.cons rfl (fun K hK => ?_) AllReadyH.nil
  go_simp
  refine (PT1.out _ (Below.refl _ _).drew).mono ?_
  rintro e w4 ⟨v4, rfl, hn4⟩
  have b4 : Hid (Below w3.heap.size w3 w4) := ((Below.refl _ _).drew).trans (hn4.2.mono (Nat.le_refl _))
  obtain ⟨a4, c4, rfl, hs4, _⟩ := hn4.src
  have L4 := keep hn4.len
  have S4 := keep hs4
  obtain ⟨M4, hM4⟩ : ∃ M, Q + ((num xfirst.length).length + xfirst.length) = M := ⟨_, rfl⟩
  have HM4 := keep hM4
  rw [hM4] at S4 L4 ⊢
  clear hn4 hs4 hM4
  go_wp2_with fail
  refine hK.out _ _ (b4.out) (fun hHeld1 => ?_)
  clear hK K
  refine wpAnyH_ready (rs := [8]) (by kernel_rfl) (by simp) ?_
  refine AllReadyH.cons rfl (fun K hK => ?_) AllReadyH.nil
  go_simp
  refine (PT2.out a4 c4 M4 _ b4.out S4.out (by have := HM4.out; have := NF.out; omega)).mono ?_
  rintro e w5 ⟨v5, rfl, hn5⟩
  have b5 : Hid (Below w3.heap.size w3 w5) := b4.out.trans (hn5.2.mono b4.out.size)
  have N5 := keep hn5
  clear hn5
  go_wp2_with fail
  refine hK.out _ _ (b5.out) (fun hHeld2 => ?_)
  clear hK K
  refine takeH (i := 9) 2 (v := v5) rfl rfl (by kernel_rfl) (by kernel_rfl) (by kernel_rfl) (fun _ _ _ h => h) (Or.inl ⟨by rfl, ?_⟩) (by assumption) ?_
  · intro w' hSw'
    go_simp
  simp only [Act.put, List.setIfInBounds_toArray, List.set_cons_zero, List.set_cons_succ]
  refine wpAnyH_done (by kernel_rfl) ?_ _
  go_wp2
  go_ret
  have NN := N5.out.base (b4.out)
  have NW := NN.base B3.out
  refine ⟨_, rfl, ?_⟩
  have e := NW.len
  rw [e]
  exact NW
/-- Encode's answer. -/
def EncA (v : Ed.Ver) (w : World) (e : Ending) (w' : World) : Prop := ∃ a m c l, e = .returned (.tuple #[.slice a m c, .int .i64 (chkN v)]) ∧ Src w' a m c l ∧ l = (if Ed.chk v then Ed.verB v else []) ∧ Below w.heap.size w w'
set_option maxHeartbeats 4000000 in
set_option maxRecDepth 100000 in
theorem encode_any (x : VV) (w : World) (hx : VV.held w x) : Calls Tryz.prog 98 #[x.val] w fun e w' => EncA x.v w e w' := by
  obtain ⟨i0, hi, hz0, hz1, hz2⟩ := info_parts info5
  obtain ⟨p, n, c, gen, next, log, seq, es⟩ := x
  have SX : Hid (RSrc metaKind w p n c es) := hx
  have HL : Hid (es.length = n) := hx.len
  unfold VV.val
  simp only
  obtain ⟨V, hV⟩ : ∃ V : Ed.Ver, VV.v ⟨p, n, c, gen, next, log, seq, es⟩ = V := ⟨_, rfl⟩
  have EV : Hid (V.gen = gen ∧ V.next = next ∧ V.log = log ∧ V.seq = seq ∧ V.tabs = es.map (·.m)) := by subst hV; exact ⟨rfl, rfl, rfl, rfl, rfl⟩
  obtain ⟨W1, hW1⟩ : ∃ W1, w.alloc (.cells #[.int .i64 gen, .int .i64 next, .int .i64 log, .int .i64 seq, .slice p n c] 50) = W1 := ⟨_, rfl⟩
  have b1 : Hid (Below w.heap.size w W1) := by rw [← hW1]; exact (Below.refl _ _).alloc (Nat.le_refl _) _
  have g1 : Hid (W1.heap[w.heap.size]? = some (.cells #[.int .i64 gen, .int .i64 next, .int .i64 log, .int .i64 seq, .slice p n c] 50)) := by rw [← hW1]; exact heap_alloc_new w _
  have CX : Hid (∀ w', Below W1.heap.size W1 w' → w'.cell? ⟨w.heap.size, 0, none⟩ = some (.int .i64 gen) ∧ w'.cell? ⟨w.heap.size, 1, none⟩ = some (.int .i64 next) ∧ w'.cell? ⟨w.heap.size, 2, none⟩ = some (.int .i64 log) ∧ w'.cell? ⟨w.heap.size, 3, none⟩ = some (.int .i64 seq) ∧ w'.cell? ⟨w.heap.size, 4, none⟩ = some (.slice p n c)) := fun w' hb => ⟨belowE hb (cell_of_row _ _ _ _ _ _ g1.out), belowE hb (cell_of_row _ _ _ _ _ _ g1.out), belowE hb (cell_of_row _ _ _ _ _ _ g1.out), belowE hb (cell_of_row _ _ _ _ _ _ g1.out), belowE hb (cell_of_row _ _ _ _ _ _ g1.out)⟩
  have CK := keep (vcheck_any ⟨p, n, c, gen, next, log, seq, es⟩ W1 (SX.out.below metaKind_ok b1.out))
  rw [hV] at CK ⊢
  unfold VV.val at CK
  simp only at CK
  clear hV hx
  obtain ⟨c0, c1, c2, c3, c4⟩ := CX.out W1 (Below.refl _ _)
  cases hck : Ed.chk V with
  | false =>
    have e1 : chkN V = 1 := by unfold chkN; rw [hck]; rfl
    have ANS : Hid (∀ w', Below w.heap.size w w' → EncA V w (.returned (.tuple #[.slice none 0 0, .int .i64 1])) w') := fun w' hb => ⟨none, 0, 0, [], by rw [e1], Src.empty (fun _ => rfl), by rw [hck]; rfl, hb⟩
    rw [e1] at CK
    clear hck e1
    go_enter Tryz.func98, Tryz.ntmps98
    go_wp2_with fail
    refine CK.out.mono ?_
    rintro e w2 ⟨rfl, hb2⟩
    have B2 := keep (b1.out.trans (hb2.mono b1.out.size))
    clear hb2
    go_wp2
    go_ret2
    exact ANS.out _ B2.out
  | true =>
    have e1 : chkN V = 0 := by unfold chkN; rw [hck]; rfl
    have NOK : Hid (Ed.notesOk (es.map (·.m)) next = true) := by
      have := (Ed.chk_parts hck).2.2.2.2
      rw [EV.out.2.2.2.2, EV.out.2.1] at this
      exact this
    have hlen := Ed.notes_len NOK.out
    rw [List.length_map, HL.out] at hlen
    obtain ⟨NS, hNS⟩ : ∃ NS, Ed.numsB [gen, next, log, seq, (n : Int)] = NS := ⟨_, rfl⟩
    have NSL : Hid (NS.length ≤ 45) := by
      have := Ed.numsB_len [gen, next, log, seq, (n : Int)]
      rw [hNS] at this
      exact this
    have ANS : Hid (∀ a m c w', Src w' a m c (NS ++ Ed.notesB (es.map (·.m))) → Below w.heap.size w w' → EncA V w (.returned (.tuple #[.slice a m c, .int .i64 0])) w') := fun a m c w' hs hb => ⟨a, m, c, _, by rw [e1], hs, by
      rw [hck, if_pos rfl]
      unfold Ed.verB
      rw [EV.out.1, EV.out.2.1, EV.out.2.2.1, EV.out.2.2.2.1, EV.out.2.2.2.2, List.length_map, HL.out, hNS], hb⟩
    rw [e1] at CK
    clear hck e1
    have FULL : Hid ((es.map (·.m)).take n = es.map (·.m)) := List.take_of_length_le (by rw [List.length_map, HL.out]; exact Nat.le_refl _)
    go_enter Tryz.func98, Tryz.ntmps98
    go_wp2_with fail
    refine CK.out.mono ?_
    rintro e w2 ⟨rfl, hb2⟩
    have L2 := keep hb2
    have B2 := keep (b1.out.trans (hb2.mono b1.out.size))
    clear c0 c1 c2 c3 c4
    obtain ⟨c0, c1, c2, c3, c4⟩ := CX.out w2 hb2
    obtain ⟨W3, hW3⟩ : ∃ Wn, w2.alloc (.cells #[.int .i64 gen, .int .i64 next, .int .i64 log, .int .i64 seq, .int .i64 (n : Int)] 3) = Wn := ⟨_, rfl⟩
    have l3 : Hid (Below w2.heap.size w2 W3) := by rw [← hW3]; exact (Below.refl _ _).alloc (Nat.le_refl _) _
    have s3 : Hid (RSrc inK W3 (some ⟨w2.heap.size, 0, none⟩) 5 5 [gen, next, log, seq, (n : Int)]) := by rw [← hW3]; exact isrc_new w2 [gen, next, log, seq, (n : Int)] 3
    have NB := keep (numBytes_any (some ⟨w2.heap.size, 0, none⟩) 5 5 [gen, next, log, seq, (n : Int)] W3 s3.out (by omega))
    rw [hNS] at NB
    clear hb2 CK hNS hW1
    go_wp2_with fail
    refine NB.out.mono ?_
    rintro e w4 ⟨v4, rfl, hn4⟩
    have N4 := keep (hn4.base l3.out)
    obtain ⟨a4, d4, rfl, _, _⟩ := hn4.src
    obtain ⟨Q, hQ⟩ : ∃ Q, NS.length = Q := ⟨_, rfl⟩
    have HQ := keep hQ
    have hQ45 : Q ≤ 45 := by rw [← hQ]; exact NSL.out
    rw [hQ] at N4 ⊢
    clear c0 c1 c2 c3 c4
    obtain ⟨c0, c1, c2, c3, c4⟩ := CX.out w4 (L2.out.trans (N4.out.2.mono L2.out.size))
    clear hn4 hQ NB hW3
    go_wp2
    go_loopw [5, 29] (fun vo i wr => ∃ (k : Nat) (a : Option Addr) (L c3 : Nat), k ≤ n ∧ L ≤ 45 + 173 * k ∧ vo = .slice a L c3 ∧ i = .int .i64 (k : Int) ∧ Hid (New w2 wr (.slice a L c3) L (NS ++ Ed.notesB ((es.map (·.m)).take k)))) (fun _ i _ => n - (intOf i).toNat)
    case atStart => exact ⟨0, a4, Q, d4, Nat.zero_le _, by omega, rfl, rfl, by
      have : NS ++ Ed.notesB ((es.map (·.m)).take 0) = NS := List.append_nil _
      rw [this]
      exact N4.out⟩
    case round =>
      clear c0 c1 c2 c3 c4
      obtain ⟨k, a, L, c3, hk, hL, rfl, rfl, hI⟩ := hrel
      have HB := keep (B2.out.trans (hI.out.2.mono B2.out.size))
      by_cases hkn : k < n
      · obtain ⟨b, off, rfl, _, _⟩ := SX.out.form metaKind_ok (by omega)
        obtain ⟨y, hy⟩ : ∃ y, es[k]? = some y := ⟨es[k]'(by rw [HL.out]; exact hkn), List.getElem?_eq_getElem _⟩
        have SE : Hid (∀ w', Below wr.heap.size wr w' → RSrc metaKind w' (some ⟨b, off, none⟩) n c es) := fun w' hb => SX.out.below metaKind_ok (HB.out.trans (hb.mono HB.out.size))
        obtain ⟨p0, p1, p2, p3, p4⟩ := meta_cells (SE.out wr (Below.refl _ _)) hy
        have HYM : Hid ((es.map (·.m))[k]? = some y.m) := by show _ = _; rw [List.getElem?_map, hy]; rfl
        have YK := keep (Ed.may_keys (Ed.notes_may NOK.out (List.mem_of_getElem? HYM.out)).1)
        have NT : Hid (∀ w', Below wr.heap.size wr w' → _) := fun w' hb => noteBytes_any y w' ((SE.out w' hb).held y (List.mem_of_getElem? hy)) YK.out.1 YK.out.2
        have NTL := keep (Ed.noteB_len YK.out.1 YK.out.2)
        have TM : Hid (NS ++ Ed.notesB ((es.map (·.m)).take (k + 1)) = (NS ++ Ed.notesB ((es.map (·.m)).take k)) ++ Ed.noteB y.m) := by show _ = _; rw [take_more HYM.out, Ed.notesB_more, List.append_assoc]
        obtain ⟨NY, hNY⟩ : ∃ NY, Ed.noteB y.m = NY := ⟨_, rfl⟩
        rw [hNY] at NT NTL TM
        clear hy hNY
        have ll : (k : Int) < (n : Int) := by omega
        have l0 : (0 : Int) ≤ (k : Int) := by omega
        obtain ⟨yfp, yfc, ylp, ylc, ⟨ynum, ylevel, ycount, yfirst, ylast⟩⟩ := y
        unfold mv at NT
        simp only at p0 p1 p2 p3 p4 NT
        obtain ⟨Wm, hWm⟩ : ∃ Wn, wr.alloc (.cells #[.int .i64 ynum, .int .i64 ylevel, .int .i64 ycount, .slice yfp yfirst.length yfc, .slice ylp ylast.length ylc] 113) = Wn := ⟨_, rfl⟩
        have bWm : Hid (Below wr.heap.size wr Wm) := by rw [← hWm]; exact (Below.refl _ _).alloc (Nat.le_refl _) _
        have gWm : Hid (Wm.heap[wr.heap.size]? = some (.cells #[.int .i64 ynum, .int .i64 ylevel, .int .i64 ycount, .slice yfp yfirst.length yfc, .slice ylp ylast.length ylc] 113)) := by rw [← hWm]; exact heap_alloc_new wr _
        have m0 : Wm.cell? ⟨wr.heap.size, 0, none⟩ = some (.int .i64 ynum) := cell_of_row _ _ _ _ _ _ gWm.out
        have m1 : Wm.cell? ⟨wr.heap.size, 1, none⟩ = some (.int .i64 ylevel) := cell_of_row _ _ _ _ _ _ gWm.out
        have m2 : Wm.cell? ⟨wr.heap.size, 2, none⟩ = some (.int .i64 ycount) := cell_of_row _ _ _ _ _ _ gWm.out
        have m3 : Wm.cell? ⟨wr.heap.size, 3, none⟩ = some (.slice yfp yfirst.length yfc) := cell_of_row _ _ _ _ _ _ gWm.out
        have m4 : Wm.cell? ⟨wr.heap.size, 4, none⟩ = some (.slice ylp ylast.length ylc) := cell_of_row _ _ _ _ _ _ gWm.out
        go_wp2_with fail
        refine (NT.out Wm bWm.out).mono ?_
        rintro e w6 ⟨v6, rfl, hn6⟩
        have L6 := keep (bWm.out.trans (hn6.2.mono bWm.out.size))
        obtain ⟨a6, d6, rfl, hs6, _⟩ := hn6.src
        have S6 := keep hs6
        have O6 := keep (own_block (w' := w6) hI.out.1 (fun g hg => L6.out.block g (own_size hI.out.1 hg)))
        have B6 := keep (hI.out.2.trans (L6.out.mono hI.out.2.size))
        obtain ⟨Y, hY⟩ : ∃ Y, NY.length = Y := ⟨_, rfl⟩
        have hY173 : Y ≤ 173 := by rw [← hY]; exact NTL.out
        rw [hY] at S6 ⊢
        clear hn6 hs6 hY m0 m1 m2 m3 m4 p0 p1 p2 p3 p4 hWm NT
        go_wp2_with (at_builtin; refine wpList_append_src rfl _ _ 25 rfl w2.heap.size i0 _ Tryz.underlying25 hi hz0 hz1 hz2 rfl _ L _ rfl O6.out _ Y d6 NY rfl S6.out (by omega) B6.out.size ?_; intro v7 w7 ho7 hg7; have O7 := keep ho7; have B7 := keep (B6.out.grown hg7 B6.out.size (fun j hj => (O6.out.lt j hj).1)); obtain ⟨a7, d7, rfl, _, _⟩ := Src.of_own ho7; clear ho7 hg7)
        go_roundw
        case rel => exact ⟨k + 1, a7, L + Y, d7, by omega, by omega, rfl, by go_num, by rw [TM.out]; exact ⟨O7.out, B7.out⟩⟩
        case measure => simp [intOf]; omega
      · obtain rfl : k = n := by omega
        have N1 := keep hI.out
        rw [FULL.out] at N1
        obtain ⟨a9, d9, e9, hs9, _⟩ := N1.out.src
        injection e9 with e3 e4 e5
        subst e3
        subst e5
        have S9 := keep hs9
        clear hI hs9 e4
        go_wp2
        go_ret2
        exact ANS.out _ _ _ _ S9.out HB.out
end Go.Proofs.YthnebhddakfadaaGreatDoor
