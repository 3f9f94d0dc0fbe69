/- The walk of sha.text. -/
import Derived.Test.YtdgfbbaddoghaaaDoorSxT
import Derived.Test.YtdgfbbaddoghaaaDoorSxB
namespace Go.Proofs.YtdgfbbaddoghaaaDoor.Sha
open Go.RowKit
attribute [local go_sem] shr24 shr16 shr8 lowU lowUW

theorem info5 : (Tryd.prog.info? 5).map (fun i => (i.zero, i.size, i.bytes)) = some (some (.int .u8 0), 1, 1) := by kernel_rfl
theorem at31 (s : St) (k : Nat) (hk : k < 8) (w : World) : (Instr.index 77 (.agg s.vals) (.int .i64 (k : Int))).run Tryd.prog w = .ok (.int .u32 (U (s.list.getD k 0))) w := by
  rcases (show k = 0 ∨ k = 1 ∨ k = 2 ∨ k = 3 ∨ k = 4 ∨ k = 5 ∨ k = 6 ∨ k = 7 by omega) with h | h | h | h | h | h | h | h
  all_goals subst h
  all_goals kernel_rfl

theorem bytes_take (s : St) (k : Nat) (hk : k < 8) : (s.list.take (k + 1)).flatMap be32 = (s.list.take k).flatMap be32 ++ be32 (s.list.getD k 0) := by
  have hl : k < s.list.length := hk
  rw [List.take_succ_eq_append_getElem hl, List.flatMap_append, List.getD_eq_getElem?_getD, List.getElem?_eq_getElem hl]
  simp
theorem be_len (l : List UInt32) : (l.flatMap be32).length = 4 * l.length := by
  induction l with
  | nil => rfl
  | cons x l ih => rw [List.flatMap_cons, List.length_append, ih, List.length_cons]; show 4 + _ = _; omega
theorem bytes_len (s : St) (k : Nat) (hk : k ≤ 8) : ((s.list.take k).flatMap be32).length = 4 * k := by
  rw [be_len, List.length_take]
  have h8 : s.list.length = 8 := rfl
  omega

set_option maxHeartbeats 1000000 in
set_option maxRecDepth 100000 in
theorem text_any (s : St) (w : World) :
    Calls Tryd.prog 49 #[.agg s.vals] w fun e w' => e = .returned (.string ⟨s.bytes.toArray⟩) ∧ Below w.heap.size w w' := by
  obtain ⟨i0, hi, hz0, hz1, hz2⟩ := info_parts info5
  go_enter Tryd.func49, Tryd.ntmps49
  go_wp2_with (first
    | (at_make; refine wpList_make_own _ rfl _ _ 48 rfl (w.heap.size + 1) 5 i0 (.int .u8 0) 1 Tryd.underlying48 hi hz0 hz1 .i64 .i64 _ 32 rfl rfl (by omega) (by rw [hz2]; omega) (by unfold maxLen; omega) (by simp) ?_; intro w1 hown hgrow; have hg : Hid (w1.heap[w.heap.size]? = some (.cells s.vals 77 (0, 0))) := (hgrow.block w.heap.size (by simp) (by simp)).trans (heap_alloc_new w _))
    | (refine wpList_load_row rfl 77 _ rfl w.heap.size rfl 77 s.vals (0, 0) _ hg.out Tryd.underlying77 rfl (size31v s) ?_))
  have hb : Hid (Below w.heap.size w w1) := ((Below.refl _ _).alloc (Nat.le_refl _) _).grown hgrow (by simp) (fun k h => by cases h)
  have hown' : Hid (w1.ownsRow (w.heap.size + 1) 5 1 (.slice (some ⟨w.heap.size + 1, 0, none⟩) 0 32) 0 []) := by
    simp at hown
    exact hown
  clear hown hgrow hg
  have hidx := at31 s
  go_loopw [3, 8] (fun v i wr => ∃ k g cap : Nat, k ≤ 8 ∧ i = .int .i64 k ∧ v = .slice (some ⟨g, 0, none⟩) (4 * k) cap ∧ Hid (wr.ownsRow (w.heap.size + 1) 5 1 v (4 * k) (bv ((s.list.take k).flatMap be32))) ∧ Hid (Below w.heap.size w wr)) (fun _ i _ => 8 - (intOf i).toNat)
  case atStart => exact ⟨0, _, _, Nat.zero_le _, rfl, rfl, hown', hb⟩
  case round =>
    clear hb hown'
    obtain ⟨k, g0, cap0, hk, rfl, rfl, hown, hb⟩ := hrel
    by_cases hlt : k < 8
    · have hix := hidx k hlt
      clear hidx
      obtain ⟨x, hx⟩ : ∃ x, s.list.getD k 0 = x := ⟨_, rfl⟩
      rw [hx] at hix
      have hbt := bytes_take s k hlt
      rw [hx] at hbt
      have HBT : Hid ((s.list.take (k + 1)).flatMap be32 = (s.list.take k).flatMap be32 ++ be32 x) := hbt
      clear hbt hx
      have hszz : w.heap.size + 1 ≤ wr.heap.size := by have := (hown.out.lt g0 rfl); omega
      go_wp2_with (at_builtin; refine wpList_append_lies _ rfl _ _ 48 rfl (w.heap.size + 1) 5 i0 _ 1 1 Tryd.underlying48 hi hz0 hz1 hz2 rfl (by omega) _ (4 * k) _ rfl (hown.out.alloc _) ⟨wr.heap.size, 0, none⟩ 4 4 (bv (be32 x)) rfl rfl (World.news_of_block (heap_alloc_new wr _)) (bv_one _) (by omega) (by unfold maxLen; omega) (by omega) (by simp; omega) _ rfl ?_; intro g cap w2 hown2 hgrow2 hat hlt2)
      have hown3 : Hid (w2.ownsRow (w.heap.size + 1) 5 1 (.slice (some ⟨g, 0, none⟩) (4 * (k + 1)) cap) (4 * (k + 1)) (bv ((s.list.take (k + 1)).flatMap be32))) := by rw [HBT.out, bv_append]; exact hown2
      have hb3 : Hid (Below w.heap.size w w2) := (hb.out.alloc hb.out.size _).grown hgrow2 (by have := hb.out.size; simp; omega) (fun j hj => by have := (hown.out.lt j hj).1; omega)
      clear hown2 hgrow2 hown hb hat
      go_wp2
      go_roundw
      case rel => exact ⟨k + 1, g, cap, by omega, by go_num, rfl, hown3, hb3⟩
      case measure => simp [intOf]; omega
    · have hk2 : k = 8 := by omega
      subst hk2
      clear hidx
      have hc := conv_own Tryd.underlying48 Tryd.underlying5 Tryd.underlying9 hown.out (bytes_len s 8 (by omega))
      go_wp2
      go_ret
      exact ⟨rfl, hb.out⟩
end Go.Proofs.YtdgfbbaddoghaaaDoor.Sha
