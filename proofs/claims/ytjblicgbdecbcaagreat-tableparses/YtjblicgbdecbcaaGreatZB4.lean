/- The walk of bloom's Has. -/
import Derived.Test.YtjblicgbdecbcaaGreatZB3j
namespace Go.Proofs.YtjblicgbdecbcaaGreat
open Go.RowKit Go.Shelf
attribute [local go_sem] Oper.semAt_some

/-- All these places are marked. -/
def allAt (f key : List UInt8) (b : Nat) (pre : List Nat) : Bool := pre.all fun i => Bl.bitAt f (Bl.place key b i)
theorem allAt_snoc (f key : List UInt8) (b : Nat) (pre : List Nat) (x : Nat) : allAt f key b (pre ++ [x]) = (allAt f key b pre && Bl.bitAt f (Bl.place key b x)) := by simp [allAt]
theorem allAt_range (f key : List UInt8) (n : Nat) : allAt f key (8 * f.length) (List.range n) = Bl.hasN f key n := rfl
/-- How the program asks for a bit. -/
theorem bit_asked (y : UInt8) (r : Nat) : bits .and .u8 ((y.toNat : Int) / 2 ^ r) 1 = if Bl.bitB y r = true then 1 else 0 := by
  have e : ((y.toNat : Int) / 2 ^ r) = ((y.toNat / 2 ^ r : Nat) : Int) := by
    rw [Int.natCast_ediv, Int.natCast_pow]; rfl
  have hlt : y.toNat / 2 ^ r < 256 := Nat.lt_of_le_of_lt (Nat.div_le_self _ _) y.toNat_lt
  rw [e, show (1 : Int) = ((1 : Nat) : Int) from rfl, u8_and_nat _ 1 hlt (by decide), Nat.and_one_is_mod]
  unfold Bl.bitB
  rw [Nat.testBit_eq_decide_div_mod_eq]
  rcases Nat.mod_two_eq_zero_or_one (y.toNat / 2 ^ r) with h1 | h1 <;> rw [h1] <;> rfl

set_option maxHeartbeats 2000000 in
set_option maxRecDepth 100000 in
theorem has_some (ao : Option Addr) (m c : Nat) (f : List UInt8) (ao2 : Option Addr) (m2 c2 : Nat) (key : List UInt8) (w : World) (h0 : 0 < m) (hm : m ≤ 140737488355328) (hm2 : m2 + 1 ≤ 140737488355328) (hs : Src w ao m c f) (hs2 : Src w ao2 m2 c2 key) :
    Calls Tryz.prog 44 #[.slice ao m c, .slice ao2 m2 c2] w fun e w' => e = .returned (.bool (Bl.has f key)) ∧ Below w.heap.size w w' := by
  have hfl := hs.len
  obtain ⟨W1, hW1⟩ : ∃ W1, (w.alloc (.cells #[.slice ao m c] 24)).alloc (.cells #[.bool false] 4) = W1 := ⟨_, rfl⟩
  have b1 : Hid (Below w.heap.size w W1) := by rw [← hW1]; exact ((Below.refl _ _).alloc (Nat.le_refl _) _).alloc (by simp) _
  have s1 : Hid (W1.heap.size = w.heap.size + 2) := by rw [← hW1]; show _ = _; simp
  have g0 : Hid (W1.heap[w.heap.size]? = some (.cells #[.slice ao m c] 24)) := by
    rw [← hW1]; exact (Below.heap_alloc _ _ _ (by simp)).trans (heap_alloc_new w _)
  have g1 : Hid (W1.heap[w.heap.size + 1]? = some (.cells #[.bool false] 4)) := by
    have := heap_alloc_new (w.alloc (.cells #[.slice ao m c] 24)) (.cells #[.bool false] 4)
    rw [World.size_alloc] at this
    rw [← hW1]; exact this
  have c0 : W1.cell? ⟨w.heap.size, 0, none⟩ = some (.slice ao m c) := cell_of_row _ _ _ _ _ _ g0.out
  have HS := keep hs
  have HS2 := keep hs2
  clear hs hs2
  rw [← callsIn_wide (n := 8)]
  refine callsIn_of_wp_marks Tryz.func44 rfl trivial ?_ rfl
  simp only [Tryz.ntmps44, List.size_toArray, List.length_cons, List.length_nil, Nat.reduceAdd, Nat.reduceSub, Array.replicate_succ, Array.replicate_zero, List.push_toArray, List.append_toArray, List.nil_append, List.cons_append]
  gi_wp2_with fail
  refine ⟨trivial, ?_⟩
  refine (callsIn_wide.2 (bitsOf_any ao m c W1 hm)).mono ?_
  rintro e w2 ⟨rfl, hw2⟩
  have hw3 := hw2.symm
  subst hw3
  gi_wp2_with fail
  refine ⟨trivial, ?_⟩
  refine (places_in Fence.wide 7 trivial rfl ao2 m2 c2 _ W1).mono ?_
  rintro e w9 ⟨rfl, hw9⟩
  have b9 : Hid (Below W1.heap.size W1 w9) := by rw [hw9]; exact ((Below.refl _ _).alloc (Nat.le_refl _) _).alloc (by simp) _
  have s9 : Hid (w9.heap.size = w.heap.size + 4) := by show _ = _; rw [hw9]; simp; rw [s1.out]
  have q1 : Hid (w9.cell? ⟨W1.heap.size + 1, 0, none⟩ = some (.int .u64 ((8 * m : Nat) : Int))) := by
    have := heap_alloc_new (W1.alloc (.cells #[.slice ao2 m2 c2] 24)) (.cells #[.int .u64 ((8 * m : Nat) : Int)] 81)
    rw [World.size_alloc] at this
    rw [hw9]
    exact cell_of_row _ _ _ _ _ _ this
  have q0 : Hid (w9.cell? ⟨W1.heap.size, 0, none⟩ = some (.slice ao2 m2 c2)) := by
    rw [hw9]
    exact cell_of_row _ _ _ _ _ _ ((Below.heap_alloc _ _ _ (by simp)).trans (heap_alloc_new W1 _))
  clear hw9
  have B9 := keep (b1.out.trans (b9.out.mono b1.out.size))
  have r1 : Hid (w9.heap[w.heap.size + 1]? = some (.cells #[.bool false] 4)) := (b9.out.block _ (by rw [s1.out]; omega)).trans g1.out
  have r0 : Hid (w9.heap[w.heap.size]? = some (.cells #[.slice ao m c] 24)) := (b9.out.block _ (by rw [s1.out]; omega)).trans g0.out
  gi_wp2_with fail
  refine wpIn_rangeFunc_ownG (α := Nat) (F := Fence.wide) rfl (by decide) (gf := 81) (lb := #[.pointer (some ⟨W1.heap.size + 1, 0, none⟩), .pointer (some ⟨W1.heap.size, 0, none⟩)]) rfl trivial (enters_of Tryz.func81 (by kernel_rfl) rfl)
    (places_stops 7 (by decide) (W1.heap.size + 1) W1.heap.size (8 * m) (by omega) (by omega) ao2 m2 c2 key hm2 w9 q1.out q0.out (HS2.out.below B9.out)) KpB.t KpB.b (Below.refl _ _) (fun _ => rfl)
    (fun pre W => allAt f key (8 * m) pre = true ∧ Below w9.heap.size w9 W)
    (fun c pre W => c = .ret ∧ allAt f key (8 * m) pre = false ∧ Boxed W (w.heap.size + 1) 4 (.bool false) ∧ Below w.heap.size w W)
    (fun pre W W' row h hg hr => ⟨h.1, h.2.grown hg h.2.size (fun k e => (hr k e).1)⟩)
    (fun c pre W W' row h hg hr => ⟨h.1, h.2.1, h.2.2.1.kept hg (fun e => by have := (hr _ e.symm).1; rw [s9.out] at this; omega), h.2.2.2.grown hg h.2.2.2.size (fun k e => by have := (hr k e).1; rw [s9.out] at this; omega)⟩)
    ⟨rfl, Below.refl _ _⟩
    (fun x => { tmps := #[.slice ao m c, .slice ao2 m2 c2, .pointer (some ⟨w.heap.size, 0, none⟩), undef, .pointer (some ⟨w.heap.size + 1, 0, none⟩), .int .u64 (Bl.place key (8 * m) x : Int), .slice ao2 m2 c2, .slice ao m c, .int .u64 ((8 * m : Nat) : Int), .func (.func 81) #[] #[.pointer (some ⟨W1.heap.size + 1, 0, none⟩), .pointer (some ⟨W1.heap.size, 0, none⟩)], .int .u64 (Bl.place key (8 * m) x : Int), undef, undef, undef, undef, undef, undef, undef, undef, undef, undef], defers := [] }) ?assign ?body ?done ?stop
  case assign =>
    intro l x W K hK
    gi_wp2
    exact hK
  case body =>
    rintro l pre x W ⟨hA, hB⟩ _
    have hpl := Bl.place_lt key (bits := 8 * m) (by omega) x
    have hsn := allAt_snoc f key (8 * m) pre x
    rw [hA, Bool.true_and] at hsn
    obtain ⟨p, hp⟩ : ∃ p, Bl.place key (8 * m) x = p := ⟨_, rfl⟩
    rw [hp] at hpl hsn ⊢
    clear hp
    obtain ⟨Q, hQ⟩ : ∃ Q, p / 8 = Q := ⟨_, rfl⟩
    obtain ⟨R, hR⟩ : ∃ R, p % 8 = R := ⟨_, rfl⟩
    have hQm : Q < m := by omega
    have hR8 : R < 8 := by omega
    have hQi : (p : Int) / 8 = (Q : Int) := by omega
    have hRi : (p : Int) % 8 = (R : Int) := by omega
    obtain ⟨bb, off, rfl, hbw, hby⟩ := HS.out.form h0
    have hc : W.cell? ⟨bb, off + Q, none⟩ = some (.int .u8 ((fn f Q).toNat : Int)) := by
      rw [(B9.out.trans (hB.mono B9.out.size)).cell (p := ⟨bb, off + Q, none⟩) hbw]; exact hby Q hQm
    have hcb : W.cell? ⟨w.heap.size, 0, none⟩ = some (.slice (some ⟨bb, off, none⟩) m c) := belowc hB (cell_of_row _ _ _ _ _ _ r0.out)
    have hx : bits .and .u8 (((fn f Q).toNat : Int) / 2 ^ R) 1 = if Bl.bitB (fn f Q) R = true then 1 else 0 := bit_asked _ _
    have hbit : Hid (Bl.bitAt f p = Bl.bitB (fn f Q) R) := by unfold Bl.bitAt; rw [hQ, hR]; rfl
    rw [hbit.out] at hsn
    have HB := keep hB
    have HSN := keep hsn
    have HA := keep hA
    clear hby hQ hR hB hsn hA hpl hbw
    obtain ⟨y, hy⟩ : ∃ y, fn f Q = y := ⟨_, rfl⟩
    rw [hy] at hc hx HSN
    clear hy hbit
    have hm1 : (Q : Int) < (m : Int) := by omega
    have hbx : Boxed W (w.heap.size + 1) 4 (.bool false) := (HB.out.block _ (by rw [s9.out]; omega)).trans r1.out
    have hrc := hbx.cell
    have hrf := hbx.frozen
    have HBX := keep hbx
    clear hbx
    cases hbb : Bl.bitB y R with
    | true =>
      rw [hbb] at hx HSN
      gi_wp2
      exact ⟨KeepsFrom.refl _ _, fun v hv => hv, HSN.out, HB.out⟩
    | false =>
      rw [hbb] at hx HSN
      gi_wp2
      exact ⟨(KeepsOthers.setCell _ _ _).from _, rfl, HSN.out, HBX.out.set _, (B9.out.trans (HB.out.mono B9.out.size)).setCell (p := ⟨w.heap.size + 1, 0, none⟩) (by simp) _⟩
  case done =>
    rintro D ys W hD rfl ⟨hA, hB⟩ hK
    have hbx : Boxed W (w.heap.size + 1) 4 (.bool false) := (hB.block _ (by rw [s9.out]; omega)).trans r1.out
    have hrc := hbx.cell
    have hrf := hbx.frozen
    have HBX := keep hbx
    have HB := keep hB
    have HA := keep hA
    have HK := keep hK
    clear hbx hB hA hK
    gi_wp2
    refine leaves_marks (B := w9.heap.size) [D] _ ⟨by simp, fun x hx => ?_, fun x hx => ?_⟩ (fun W' hs => ⟨.bool true, ?_, ?_, ?_⟩)
    · rw [List.mem_singleton.1 hx]; exact hD
    · rw [List.mem_singleton.1 hx]; exact (KeepsOthers.setCell _ _ _).same D _ HK.out rfl
    · have : W'.cell? ⟨w.heap.size + 1, 0, none⟩ = some (.bool true) := cell_of_row _ _ _ _ _ _ (hs.block (w.heap.size + 1) _ (HBX.out.set (.bool true)) (.inr rfl))
      simp [results, Tryz.f44, go_sem, this]
    · unfold Bl.has
      rw [← allAt_range, hfl, HA.out, Bool.or_true]
    · have h1 := (B9.out.trans (HB.out.mono B9.out.size)).setCell (p := ⟨w.heap.size + 1, 0, none⟩) (by simp) (.bool true)
      exact h1.trans ((hs.below (by simp only [World.setCell, Array.size_modify]; exact HB.out.size)).mono B9.out.size)
  case stop =>
    rintro D c pre W hD ⟨k, hk, rfl⟩ ⟨rfl, hA, hBx, hB⟩ hK
    have HBX := keep hBx
    have HB := keep hB
    have HA := keep hA
    have HK := keep hK
    clear hBx hB hA hK
    gi_wp2
    refine leaves_marks (B := w9.heap.size) [D] _ ⟨by simp, fun x hx => ?_, fun x hx => ?_⟩ (fun W' hs => ⟨.bool false, ?_, ?_, ?_⟩)
    · rw [List.mem_singleton.1 hx]; exact hD
    · rw [List.mem_singleton.1 hx]; exact HK.out
    · have : W'.cell? ⟨w.heap.size + 1, 0, none⟩ = some (.bool false) := cell_of_row _ _ _ _ _ _ (hs.block (w.heap.size + 1) _ HBX.out (.inr rfl))
      simp [results, Tryz.f44, go_sem, this]
    · unfold Bl.has
      have h1 : Bl.hasN f key 6 = false := by
        cases h2 : Bl.hasN f key 6 with
        | false => rfl
        | true =>
          have h3 := Bl.hasN_le hk h2
          rw [← allAt_range, hfl, HA.out] at h3
          cases h3
      rw [h1, hfl, decide_eq_false (by omega)]
      rfl
    · exact HB.out.trans ((hs.below (by have := (Array.getElem?_eq_some_iff.1 HK.out).1; omega)).mono B9.out.size)
set_option maxHeartbeats 2000000 in
set_option maxRecDepth 100000 in
theorem has_none (ao : Option Addr) (c : Nat) (ao2 : Option Addr) (m2 c2 : Nat) (key : List UInt8) (w : World)  :
    Calls Tryz.prog 44 #[.slice ao 0 c, .slice ao2 m2 c2] w fun e w' => e = .returned (.bool (Bl.has [] key)) ∧ Below w.heap.size w w' := by
  obtain ⟨W1, hW1⟩ : ∃ W1, (w.alloc (.cells #[.slice ao 0 c] 24)).alloc (.cells #[.bool false] 4) = W1 := ⟨_, rfl⟩
  have b1 : Hid (Below w.heap.size w W1) := by rw [← hW1]; exact ((Below.refl _ _).alloc (Nat.le_refl _) _).alloc (by simp) _
  have s1 : Hid (W1.heap.size = w.heap.size + 2) := by rw [← hW1]; show _ = _; simp
  have g0 : Hid (W1.heap[w.heap.size]? = some (.cells #[.slice ao 0 c] 24)) := by
    rw [← hW1]; exact (Below.heap_alloc _ _ _ (by simp)).trans (heap_alloc_new w _)
  have g1 : Hid (W1.heap[w.heap.size + 1]? = some (.cells #[.bool false] 4)) := by
    have := heap_alloc_new (w.alloc (.cells #[.slice ao 0 c] 24)) (.cells #[.bool false] 4)
    rw [World.size_alloc] at this
    rw [← hW1]; exact this
  have c0 : W1.cell? ⟨w.heap.size, 0, none⟩ = some (.slice ao 0 c) := cell_of_row _ _ _ _ _ _ g0.out
  rw [← callsIn_wide (n := 8)]
  refine callsIn_of_wp_marks Tryz.func44 rfl trivial ?_ rfl
  simp only [Tryz.ntmps44, List.size_toArray, List.length_cons, List.length_nil, Nat.reduceAdd, Nat.reduceSub, Array.replicate_succ, Array.replicate_zero, List.push_toArray, List.append_toArray, List.nil_append, List.cons_append]
  gi_wp2_with fail
  refine ⟨trivial, ?_⟩
  refine (callsIn_wide.2 (bitsOf_any ao 0 c W1 (by omega))).mono ?_
  rintro e w2 ⟨rfl, hw2⟩
  have hw3 := hw2.symm
  subst hw3
  gi_wp2_with fail
  refine ⟨trivial, ?_⟩
  refine (places_in Fence.wide 7 trivial rfl ao2 m2 c2 _ W1).mono ?_
  rintro e w9 ⟨rfl, hw9⟩
  have b9 : Hid (Below W1.heap.size W1 w9) := by rw [hw9]; exact ((Below.refl _ _).alloc (Nat.le_refl _) _).alloc (by simp) _
  have s9 : Hid (w9.heap.size = w.heap.size + 4) := by show _ = _; rw [hw9]; simp; rw [s1.out]
  have q1 : Hid (w9.cell? ⟨W1.heap.size + 1, 0, none⟩ = some (.int .u64 0)) := by
    have := heap_alloc_new (W1.alloc (.cells #[.slice ao2 m2 c2] 24)) (.cells #[.int .u64 0] 81)
    rw [World.size_alloc] at this
    rw [hw9]
    exact cell_of_row _ _ _ _ _ _ this
  have q0 : Hid (w9.cell? ⟨W1.heap.size, 0, none⟩ = some (.slice ao2 m2 c2)) := by
    rw [hw9]
    exact cell_of_row _ _ _ _ _ _ ((Below.heap_alloc _ _ _ (by simp)).trans (heap_alloc_new W1 _))
  clear hw9
  have B9 := keep (b1.out.trans (b9.out.mono b1.out.size))
  have r1 : Hid (w9.heap[w.heap.size + 1]? = some (.cells #[.bool false] 4)) := (b9.out.block _ (by rw [s1.out]; omega)).trans g1.out
  have r0 : Hid (w9.heap[w.heap.size]? = some (.cells #[.slice ao 0 c] 24)) := (b9.out.block _ (by rw [s1.out]; omega)).trans g0.out
  gi_wp2_with fail
  refine wpIn_rangeFunc_ownG (α := Nat) (F := Fence.wide) rfl (by decide) (gf := 81) (lb := #[.pointer (some ⟨W1.heap.size + 1, 0, none⟩), .pointer (some ⟨W1.heap.size, 0, none⟩)]) rfl trivial (enters_of Tryz.func81 (by kernel_rfl) rfl)
    (places_stops0 7 (W1.heap.size + 1) W1.heap.size key w9 q1.out) KpB.t KpB.b (Below.refl _ _) (fun _ => rfl)
    (fun (_ : List Nat) W => Below w9.heap.size w9 W)
    (fun _ _ _ => False)
    (fun pre W W' row h hg hr => h.grown hg h.size (fun k e => (hr k e).1))
    (fun c pre W W' row h hg hr => h)
    (Below.refl _ _)
    (fun x => { tmps := #[.slice ao 0 c, .slice ao2 m2 c2, .pointer (some ⟨w.heap.size, 0, none⟩), undef, .pointer (some ⟨w.heap.size + 1, 0, none⟩), .int .u64 (Bl.place key 1 x : Int), .slice ao2 m2 c2, .slice ao 0 c, .int .u64 0, .func (.func 81) #[] #[.pointer (some ⟨W1.heap.size + 1, 0, none⟩), .pointer (some ⟨W1.heap.size, 0, none⟩)], .int .u64 (Bl.place key 1 x : Int), undef, undef, undef, undef, undef, undef, undef, undef, undef, undef], defers := [] }) ?assign ?body ?done ?stop
  case assign =>
    intro l x W K hK
    gi_wp2
    exact hK
  case body =>
    rintro l pre x W hB h
    exact absurd h (Nat.not_lt_zero _)
  case done =>
    rintro D ys W hD rfl hB hK
    have hbx : Boxed W (w.heap.size + 1) 4 (.bool false) := (hB.block _ (by rw [s9.out]; omega)).trans r1.out
    have hrc := hbx.cell
    have hrf := hbx.frozen
    have HBX := keep hbx
    have HB := keep hB
    have HK := keep hK
    clear hbx hB hK
    gi_wp2
    refine leaves_marks (B := w9.heap.size) [D] _ ⟨by simp, fun x hx => ?_, fun x hx => ?_⟩ (fun W' hs => ⟨.bool true, ?_, ?_, ?_⟩)
    · rw [List.mem_singleton.1 hx]; exact hD
    · rw [List.mem_singleton.1 hx]; exact (KeepsOthers.setCell _ _ _).same D _ HK.out rfl
    · have : W'.cell? ⟨w.heap.size + 1, 0, none⟩ = some (.bool true) := cell_of_row _ _ _ _ _ _ (hs.block (w.heap.size + 1) _ (HBX.out.set (.bool true)) (.inr rfl))
      simp [results, Tryz.f44, go_sem, this]
    · rfl
    · have h1 := (B9.out.trans (HB.out.mono B9.out.size)).setCell (p := ⟨w.heap.size + 1, 0, none⟩) (by simp) (.bool true)
      exact h1.trans ((hs.below (by simp only [World.setCell, Array.size_modify]; exact HB.out.size)).mono B9.out.size)
  case stop =>
    rintro D c pre W hD _ h hK
    exact h.elim
theorem has_any (ao : Option Addr) (m c : Nat) (f : List UInt8) (ao2 : Option Addr) (m2 c2 : Nat) (key : List UInt8) (w : World) (hm : m ≤ 140737488355328) (hm2 : m2 + 1 ≤ 140737488355328) (hs : Src w ao m c f) (hs2 : Src w ao2 m2 c2 key) :
    Calls Tryz.prog 44 #[.slice ao m c, .slice ao2 m2 c2] w fun e w' => e = .returned (.bool (Bl.has f key)) ∧ Below w.heap.size w w' := by
  rcases Nat.eq_zero_or_pos m with h | h
  · subst h
    obtain rfl : f = [] := List.length_eq_zero_iff.1 hs.len
    exact has_none ao c ao2 m2 c2 key w
  · exact has_some ao m c f ao2 m2 c2 key w h hm hm2 hs hs2
end Go.Proofs.YtjblicgbdecbcaaGreat
