/- The walk of cat.Clean. -/
/- Remove turns no block of bytes; so does remove, told by Clean's closure. -/
/- remove, told by Clean's closure, turns no block of bytes. -/
import Derived.Test.YthnebhddakfadaaGreatDoorJoinFv
import Derived.Test.YthnebhddakfadaaGreatDoorJoinFj
import Derived.Test.YthnebhddakfadaaGreatDoorJoinHz
namespace Go.Proofs.YthnebhddakfadaaGreatDoor
open Go.RowKit
open Dk (File Disk)

theorem lt_of_less : ∀ {a b : List UInt8}, less a b = true → a < b
  | a, [], h => by cases a <;> cases h
  | [], _ :: _, _ => List.nil_lt_cons _ _
  | x :: a, y :: b, h => by
    rcases less_cons.1 h with h1 | ⟨rfl, h1⟩
    · exact List.cons_lt_cons_iff.2 (.inl (UInt8.lt_iff_toNat_lt.2 h1))
    · exact List.cons_lt_cons_iff.2 (.inr ⟨rfl, lt_of_less h1⟩)
theorem le_less {a b : List UInt8} (h : a ≤ b) : less b a = false := by
  cases hx : less b a with
  | false => rfl
  | true => exact absurd (lt_of_less hx) h
theorem sort_rises (l : List (List UInt8)) : ∀ a b, a ≤ b → b < (l.mergeSort fun x y => decide (x ≤ y)).length → less ((l.mergeSort fun x y => decide (x ≤ y)).getD b []) ((l.mergeSort fun x y => decide (x ≤ y)).getD a []) = false := by
  have h := List.pairwise_mergeSort (le := fun x y : List UInt8 => decide (x ≤ y)) (fun a b c h1 h2 => by
    simp only [decide_eq_true_eq] at h1 h2 ⊢
    exact List.le_trans h1 h2) (fun a b => by
    simp only [Bool.or_eq_true, decide_eq_true_eq]
    exact List.le_total a b) l
  intro a b hab hb
  rcases Nat.eq_or_lt_of_le hab with rfl | hlt
  · exact less_irrefl _
  · have h1 := List.pairwise_iff_getElem.1 h a b (by omega) hb hlt
    rw [List.getD_eq_getElem?_getD, List.getElem?_eq_getElem hb, List.getD_eq_getElem?_getD, List.getElem?_eq_getElem (by omega)]
    exact le_less (of_decide_eq_true h1)
theorem rv_str (l : List (List UInt8)) : rv strKind l = l.map encStr := by
  induction l with
  | nil => rfl
  | cons a l ih => show [Value.string ⟨a.toArray⟩] ++ rv strKind l = _; rw [ih]; rfl
/-- Clean, over a plain disk. -/
def cleanOf (d : Disk) (V : Ed.Ver) : Nat × Disk := if Ed.chk V then rmvAll (clnP V.log (namesL V)) d else (1, d)
set_option maxHeartbeats 8000000 in
set_option maxRecDepth 100000 in
theorem clean_own (S : Nat → Prop) (w : World) (b : Nat) (d : Disk) (x : VV) (hM : Mem S w b d) (hx : VV.held w x) (hG : ∀ w', Kept (Go.Proofs.YthnebhddakfadaaGreatDoor.mine S b) w w' → Gl w') (hdn : d.done ≤ 4611670000000000000) :
    Calls Tryz.prog 21 #[.pointer (some ⟨b, 0, none⟩), x.val] w fun e w' => ∃ S', e = .returned (.int .i64 ((cleanOf d x.v).1 : Int)) ∧ Own (Go.Proofs.YthnebhddakfadaaGreatDoor.mine S b) w S' w' b (cleanOf d x.v).2 := by
  have OS := keep (Own.start hM)
  have HSZ : Hid (∀ g, Go.Proofs.YthnebhddakfadaaGreatDoor.mine S b g → g < w.heap.size) := fun g hg => by
    rcases hg with hg | hg
    · exact hM.lt.1 g hg
    · rw [hg]; exact hM.lt.2.1
  have HB : Hid (∀ w', Below w.heap.size w w' → Gl w' ∧ Mem S w' b d ∧ Own (Go.Proofs.YthnebhddakfadaaGreatDoor.mine S b) w S w' b d) := fun w' hb => ⟨hG w' (Kept.of_below hb), hM.below hb, OS.out.next hb⟩
  have HG := keep hG
  have DN := keep hdn
  have HX := keep hx
  obtain ⟨W1, hW1⟩ : ∃ W1, w.alloc (.cells #[.int .i64 x.gen, .int .i64 x.next, .int .i64 x.log, .int .i64 x.seq, .slice x.p x.n x.c] 50) = W1 := ⟨_, rfl⟩
  have b1 : Hid (Below w.heap.size w W1) := by rw [← hW1]; exact (Below.refl _ _).alloc (Nat.le_refl _) _
  have g1 : Hid (W1.heap[w.heap.size]? = some (.cells #[.int .i64 x.gen, .int .i64 x.next, .int .i64 x.log, .int .i64 x.seq, .slice x.p x.n x.c] 50)) := by rw [← hW1]; exact heap_alloc_new w _
  have CV : Hid (∀ w', Below W1.heap.size W1 w' → w'.cell? ⟨w.heap.size, 0, none⟩ = some (.int .i64 x.gen) ∧ w'.cell? ⟨w.heap.size, 1, none⟩ = some (.int .i64 x.next) ∧ w'.cell? ⟨w.heap.size, 2, none⟩ = some (.int .i64 x.log) ∧ w'.cell? ⟨w.heap.size, 3, none⟩ = some (.int .i64 x.seq) ∧ w'.cell? ⟨w.heap.size, 4, none⟩ = some (.slice x.p x.n x.c)) := fun w' hb => ⟨below_cell hb (cell_of_row _ _ _ _ _ _ g1.out), below_cell hb (cell_of_row _ _ _ _ _ _ g1.out), below_cell hb (cell_of_row _ _ _ _ _ _ g1.out), below_cell hb (cell_of_row _ _ _ _ _ _ g1.out), below_cell hb (cell_of_row _ _ _ _ _ _ g1.out)⟩
  obtain ⟨V, hV⟩ : ∃ V, VV.v x = V := ⟨_, rfl⟩
  have HV := keep hV
  have VC : Hid (∀ w', Below w.heap.size w w' → Calls Tryz.prog 30 #[x.val] w' fun e w'' => e = .returned (.int .i64 (chkN V)) ∧ Below w'.heap.size w' w'') := fun w' hb => by rw [← HV.out]; exact vcheck_any x w' (HX.out.below hb)
  have NA : Hid (∀ w', Below w.heap.size w w' → x.n ≤ 999999 → Calls Tryz.prog 60 #[x.val] w' fun e w'' => ∃ v, e = .returned v ∧ w''.ownsRow w'.heap.size 9 1 v (x.n + 1) ((namesL V).map encStr) ∧ Below w'.heap.size w' w'') := fun w' hb hn => by rw [← HV.out]; exact names_any x w' (HX.out.below hb) (HB.out w' hb).1 hn
  have VT : Hid (V.tabs.length = x.n) := by show _ = _; rw [← hV]; show (x.es.map (·.m)).length = x.n; rw [List.length_map]; exact RSrc.len hx
  have VL : Hid (V.log = x.log) := by show _ = _; rw [← hV]; rfl
  rw [hV]
  unfold VV.val at VC NA ⊢
  obtain ⟨p, n, c, gen, next, log, seq, es⟩ := x
  simp only at hW1 CV VC NA VT VL ⊢
  clear hx hM hG hdn hV
  go_enter Tryz.func21, Tryz.ntmps21
  go_wp2_with fail
  refine (cnone_mem S b d W1 (HB.out _ b1.out).2.1).mono ?_
  rintro e w2 ⟨rfl, hb2⟩
  have L2 := keep hb2
  have B2 := keep (b1.out.trans (hb2.mono b1.out.size))
  obtain ⟨d0, d1, d2, d3, d4⟩ := CV.out w2 hb2
  clear hb2
  go_wp2_with fail
  refine (VC.out w2 B2.out).mono ?_
  rintro e w3 ⟨rfl, hb3⟩
  have L3 := keep (L2.out.trans (hb3.mono L2.out.size))
  have B3 := keep (B2.out.trans (hb3.mono B2.out.size))
  clear hb3 d0 d1 d2 d3 d4
  cases hck : Ed.chk V with
  | false =>
    have e1 : cleanOf d V = (1, d) := by unfold cleanOf; rw [hck]; rfl
    have e2 : chkN V = 1 := by unfold chkN; rw [hck]; rfl
    have E1 := keep e1
    have O3 := keep (HB.out _ B3.out).2.2
    rw [e2]
    clear e1 e2 hck
    go_wp2
    go_ret
    rw [E1.out]
    exact ⟨S, rfl, O3.out⟩
  | true =>
    have e2 : chkN V = 0 := by unfold chkN; rw [hck]; rfl
    have E1 : Hid (cleanOf d V = rmvAll (clnP V.log (namesL V)) d) := by show _ = _; unfold cleanOf; rw [hck]; rfl
    have NL : Hid (n ≤ 999999) := by
      obtain ⟨_, _, _, _, hno⟩ := Ed.chk_parts hck
      have h1 := (Ed.notes_may2 hno).1
      have h2 := VT.out
      show _ ≤ _
      omega
    obtain ⟨d0, d1, d2, d3, d4⟩ := CV.out w3 L3.out
    rw [e2]
    clear e2 hck
    go_wp2_with fail
    refine (NA.out w3 B3.out NL.out).mono ?_
    rintro e w4 ⟨v, rfl, ho4, hb4⟩
    obtain ⟨ao, c4, rfl⟩ := own_slice ho4
    have O4 := keep ho4
    have L4 := keep (L3.out.trans (hb4.mono L3.out.size))
    have B4 := keep (B3.out.trans (hb4.mono B3.out.size))
    have S3 := keep hb4.size
    obtain ⟨W5, hW5⟩ : ∃ W5, w4.alloc (.cells #[.slice ao (n + 1) c4] 63) = W5 := ⟨_, rfl⟩
    have b5 : Hid (Below w4.heap.size w4 W5) := by rw [← hW5]; exact (Below.refl _ _).alloc (Nat.le_refl _) _
    have g5 : Hid (W5.heap[w4.heap.size]? = some (.cells #[.slice ao (n + 1) c4] 63)) := by rw [← hW5]; exact heap_alloc_new w4 _
    have B5 := keep (B4.out.trans (b5.out.mono B4.out.size))
    have L5 := keep (L4.out.trans (b5.out.mono L4.out.size))
    have O5 : Hid (W5.ownsRow w3.heap.size 9 1 (.slice ao (n + 1) c4) (n + 1) (rv strKind (namesL V))) := by rw [rv_str]; exact own_block O4.out (fun g hg => b5.out.block g (own_size O4.out hg))
    clear ho4 hb4 d0 d1 d2 d3 d4
    have RM := keep (remove_three S W5 b d w.heap.size w4.heap.size (clnP V.log (namesL V)) (HB.out _ B5.out).2.1 (by have := DN.out; omega) (fun nm W hn hk => by
      have hmk : ∀ g, w.heap.size ≤ g → g < W5.heap.size → W.heap[g]? = W5.heap[g]? := fun g h1 h2 => hk.block g h2 (fun e => by have := HSZ.out g e; omega)
      have s1 := b1.out.size
      have hgl : Gl W := HG.out W ((Kept.of_below B5.out).trans' hk (fun g _ hg => hg))
      have q1 : W.heap[w.heap.size]? = some (.cells #[.int .i64 gen, .int .i64 next, .int .i64 log, .int .i64 seq, .slice p n c] 50) := by
        have h1 := below_row g1.out L5.out
        rw [hmk _ (Nat.le_refl _) (Array.getElem?_eq_some_iff.1 h1).1]
        exact h1
      have q2 : W.heap[w4.heap.size]? = some (.cells #[.slice ao (n + 1) c4] 63) := by
        rw [hmk _ B4.out.size (Array.getElem?_eq_some_iff.1 g5.out).1]
        exact g5.out
      have q3 := own_block O5.out (fun g hg => hmk g (Nat.le_trans B3.out.size (O5.out.lt g hg).1) (own_size O5.out hg))
      obtain ⟨ao', c', e, hr, _⟩ := RSrc.own strKind_ok q3 (fun _ _ => trivial)
      cases e
      have hnl := named_len hn
      have h3 := NL.out
      rw [VL.out]
      exact clean1_any nm w.heap.size w4.heap.size log ao (n + 1) c4 (namesL V) W (cell_of_row _ _ _ _ _ _ q1) (cell_of_row _ _ _ _ _ _ q2) hr (by omega) (sort_rises _) hgl (fun e => by rw [e] at hnl; simp at hnl) (by omega)))
    go_wp2_with fail
    refine RM.out.mono ?_
    rintro e w6 ⟨S6, rfl, hO6⟩
    have OO := keep ((HB.out _ B5.out).2.2.then hO6)
    clear hO6
    go_wp2
    go_ret
    rw [E1.out]
    first | exact ⟨S6, rfl, OO.out⟩ | exact ⟨_, rfl, OO.out⟩
end Go.Proofs.YthnebhddakfadaaGreatDoor
namespace Go.Proofs.YthnebhddakfadaaGreatDoor
open Go.RowKit
open Dk (File Disk)

end Go.Proofs.YthnebhddakfadaaGreatDoor
namespace Go.Proofs.YthnebhddakfadaaGreatDoor
open Go.RowKit
open Dk (File Disk)

end Go.Proofs.YthnebhddakfadaaGreatDoor
