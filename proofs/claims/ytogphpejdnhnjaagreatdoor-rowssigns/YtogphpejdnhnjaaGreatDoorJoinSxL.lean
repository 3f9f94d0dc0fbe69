/- The walk of sha.text. -/
/- The walk of sha.ending. -/
/- The walk of sha.takeAll where there are no bytes; of sha.Sum. -/
/- What the rows' list of variables gives: the first state and the table; a world that holds them; no walk. -/
import Derived.Test.YtogphpejdnhnjaaGreatDoorJoinSxS
import Derived.Deep.DeepHandedRow
import Derived.Lib.LaidTab
import Derived.Stop.LaidErr
namespace Go.Proofs.YtogphpejdnhnjaaGreatDoor.Sha
open Go.RowKit
attribute [local go_sem] shr24 shr16 shr8 lowU lowUW

theorem info5 : (Tryz.prog.info? 5).map (fun i => (i.zero, i.size, i.bytes)) = some (some (.int .u8 0), 1, 1) := by kernel_rfl
theorem at31 (s : St) (k : Nat) (hk : k < 8) (w : World) : (Instr.index 155 (.agg s.vals) (.int .i64 (k : Int))).run Tryz.prog w = .ok (.int .u32 (U (s.list.getD k 0))) w := by
  rcases (show k = 0 ∨ k = 1 ∨ k = 2 ∨ k = 3 ∨ k = 4 ∨ k = 5 ∨ k = 6 ∨ k = 7 by omega) with h | h | h | h | h | h | h | h
  all_goals subst h
  all_goals kernel_rfl

theorem bytes_take (s : St) (k : Nat) (hk : k < 8) : (s.list.take (k + 1)).flatMap be32 = (s.list.take k).flatMap be32 ++ be32 (s.list.getD k 0) := by
  have hl : k < s.list.length := hk
  rw [List.take_succ_eq_append_getElem hl, List.flatMap_append, List.getD_eq_getElem?_getD, List.getElem?_eq_getElem hl]
  simp
theorem be_len (l : List UInt32) : (l.flatMap be32).length = 4 * l.length := by
  induction l with
  | nil => rfl
  | cons x l ih => rw [List.flatMap_cons, List.length_append, ih, List.length_cons]; show 4 + _ = _; omega
theorem bytes_len (s : St) (k : Nat) (hk : k ≤ 8) : ((s.list.take k).flatMap be32).length = 4 * k := by
  rw [be_len, List.length_take]
  have h8 : s.list.length = 8 := rfl
  omega

set_option maxHeartbeats 1000000 in
set_option maxRecDepth 100000 in
theorem text_any (s : St) (w : World) :
    Calls Tryz.prog 67 #[.agg s.vals] w fun e w' => e = .returned (.string ⟨s.bytes.toArray⟩) ∧ Below w.heap.size w w' := by
  obtain ⟨i0, hi, hz0, hz1, hz2⟩ := info_parts info5
  go_enter Tryz.func67, Tryz.ntmps67
  go_wp2_with (first
    | (at_make; refine wpList_make_own _ rfl _ _ 47 rfl (w.heap.size + 1) 5 i0 (.int .u8 0) 1 Tryz.underlying47 hi hz0 hz1 .i64 .i64 _ 32 rfl rfl (by omega) (by rw [hz2]; omega) (by unfold maxLen; omega) (by simp) ?_; intro w1 hown hgrow; have hg : Hid (w1.heap[w.heap.size]? = some (.cells s.vals 155 (0, 0))) := (hgrow.block w.heap.size (by simp) (by simp)).trans (heap_alloc_new w _))
    | (refine wpList_load_row rfl 155 _ rfl w.heap.size rfl 155 s.vals (0, 0) _ hg.out Tryz.underlying155 rfl (size31v s) ?_))
  have hb : Hid (Below w.heap.size w w1) := ((Below.refl _ _).alloc (Nat.le_refl _) _).grown hgrow (by simp) (fun k h => by cases h)
  have hown' : Hid (w1.ownsRow (w.heap.size + 1) 5 1 (.slice (some ⟨w.heap.size + 1, 0, none⟩) 0 32) 0 []) := by
    simp at hown
    exact hown
  clear hown hgrow hg
  have hidx := at31 s
  go_loopw [3, 8] (fun v i wr => ∃ k g cap : Nat, k ≤ 8 ∧ i = .int .i64 k ∧ v = .slice (some ⟨g, 0, none⟩) (4 * k) cap ∧ Hid (wr.ownsRow (w.heap.size + 1) 5 1 v (4 * k) (bv ((s.list.take k).flatMap be32))) ∧ Hid (Below w.heap.size w wr)) (fun _ i _ => 8 - (intOf i).toNat)
  case atStart => exact ⟨0, _, _, Nat.zero_le _, rfl, rfl, hown', hb⟩
  case round =>
    clear hb hown'
    obtain ⟨k, g0, cap0, hk, rfl, rfl, hown, hb⟩ := hrel
    by_cases hlt : k < 8
    · have hix := hidx k hlt
      clear hidx
      obtain ⟨x, hx⟩ : ∃ x, s.list.getD k 0 = x := ⟨_, rfl⟩
      rw [hx] at hix
      have hbt := bytes_take s k hlt
      rw [hx] at hbt
      have HBT : Hid ((s.list.take (k + 1)).flatMap be32 = (s.list.take k).flatMap be32 ++ be32 x) := hbt
      clear hbt hx
      have hszz : w.heap.size + 1 ≤ wr.heap.size := by have := (hown.out.lt g0 rfl); omega
      go_wp2_with (at_builtin; refine wpList_append_lies _ rfl _ _ 47 rfl (w.heap.size + 1) 5 i0 _ 1 1 Tryz.underlying47 hi hz0 hz1 hz2 rfl (by omega) _ (4 * k) _ rfl (hown.out.alloc _) ⟨wr.heap.size, 0, none⟩ 4 4 (bv (be32 x)) rfl rfl (World.news_of_block (heap_alloc_new wr _)) (bv_one _) (by omega) (by unfold maxLen; omega) (by omega) (by simp; omega) _ rfl ?_; intro g cap w2 hown2 hgrow2 hat hlt2)
      have hown3 : Hid (w2.ownsRow (w.heap.size + 1) 5 1 (.slice (some ⟨g, 0, none⟩) (4 * (k + 1)) cap) (4 * (k + 1)) (bv ((s.list.take (k + 1)).flatMap be32))) := by rw [HBT.out, bv_append]; exact hown2
      have hb3 : Hid (Below w.heap.size w w2) := (hb.out.alloc hb.out.size _).grown hgrow2 (by have := hb.out.size; simp; omega) (fun j hj => by have := (hown.out.lt j hj).1; omega)
      clear hown2 hgrow2 hown hb hat
      go_wp2
      go_roundw
      case rel => exact ⟨k + 1, g, cap, by omega, by go_num, rfl, hown3, hb3⟩
      case measure => simp [intOf]; omega
    · have hk2 : k = 8 := by omega
      subst hk2
      clear hidx
      have hc := conv_own Tryz.underlying47 Tryz.underlying5 Tryz.underlying9 hown.out (bytes_len s 8 (by omega))
      go_wp2
      go_ret
      exact ⟨rfl, hb.out⟩
end Go.Proofs.YtogphpejdnhnjaaGreatDoor.Sha
namespace Go.Proofs.YtogphpejdnhnjaaGreatDoor.Sha
open Go.RowKit

def tail1 (l : List UInt8) (j : Nat) : List UInt8 := l ++ [128] ++ List.replicate j 0
theorem tail1_succ (l : List UInt8) (j : Nat) : tail1 l (j + 1) = tail1 l j ++ [0] := by
  unfold tail1
  rw [List.replicate_succ', ← List.append_assoc]
theorem tail1_length (l : List UInt8) (j : Nat) : (tail1 l j).length = l.length + 1 + j := by simp [tail1]; omega
theorem nz_of (m : Nat) : (m + 1 + nz m) % 64 = 56 ∧ nz m < 64 ∧ ∀ j, j < nz m → (m + 1 + j) % 64 ≠ 56 := by
  unfold nz
  refine ⟨by omega, by omega, fun j hj => by omega⟩
theorem be64_take (n j : Nat) (h : j < 8) : (be64 n).take (j + 1) = (be64 n).take j ++ [UInt8.ofNat (n / 2 ^ (56 - 8 * j))] := by
  rcases (show j = 0 ∨ j = 1 ∨ j = 2 ∨ j = 3 ∨ j = 4 ∨ j = 5 ∨ j = 6 ∨ j = 7 by omega) with h | h | h | h | h | h | h | h
  all_goals subst h
  all_goals simp [be64]
theorem byteN (n s : Nat) : IntKind.u8.wrap ((n : Int) / 2 ^ s) = ((UInt8.ofNat (n / 2 ^ s)).toNat : Int) := by
  rw [IntKind.wrap_u8', UInt8.toNat_ofNat', Int.natCast_emod, Int.natCast_ediv, Int.natCast_pow]
  rfl

set_option maxHeartbeats 1000000 in
set_option maxRecDepth 100000 in
theorem ending_any (ao : Option Addr) (m c : Nat) (l : List UInt8) (n : Nat) (w : World) (hm : m < 64) (hn : n ≤ 140737488355328) (hsrc : Src w ao m c l) :
    Calls Tryz.prog 68 #[.slice ao m c, .int .i64 (n : Int)] w fun e w' => e = .returned (.slice (some ⟨w.heap.size, 0, none⟩) (m + 1 + nz m + 8) 128) ∧ w'.ownsRow w.heap.size 5 1 (.slice (some ⟨w.heap.size, 0, none⟩) (m + 1 + nz m + 8) 128) (m + 1 + nz m + 8) (bv (tail1 l (nz m) ++ be64 (n * 8))) ∧ Below w.heap.size w w' := by
  obtain ⟨i0, hi, hz0, hz1, hz2⟩ := info_parts info5
  obtain ⟨z1, z2, z3⟩ := nz_of m
  have HS : Hid (Src w ao m c l) := hsrc
  have hll := hsrc.len
  clear hsrc
  go_enter Tryz.func68, Tryz.ntmps68
  go_wp2_with (first
    | (at_make; refine wpList_make_own _ rfl _ _ 47 rfl w.heap.size 5 i0 (.int .u8 0) 1 Tryz.underlying47 hi hz0 hz1 .i64 .i64 _ 128 rfl rfl (by omega) (by rw [hz2]; omega) (by unfold maxLen; omega) (Nat.le_refl _) ?_; intro w1 hown hgrow; have hb1 : Hid (Below w.heap.size w w1) := (Below.refl _ _).grown hgrow (Nat.le_refl _) (fun k h => by cases h); have HO : Hid (w1.ownsRow w.heap.size 5 1 (.slice (some ⟨w.heap.size, 0, none⟩) 0 128) 0 []) := hown; clear hown hgrow)
    | (at_builtin; refine wpList_append_fits_any _ rfl (.tmp 9) (.tmp 10) 47 rfl w.heap.size 5 i0 1 Tryz.underlying47 hi hz1 w.heap.size 0 128 [] rfl HO.out _ m c (bv l) rfl (by rw [bv_length]; omega) (HS.out.nil) (HS.out.below hb1.out).cells (bv_one l) (by omega) ?_; intro w2 hown2 hgrow2; have hb2 : Hid (Below w.heap.size w w2) := hb1.out.grown hgrow2 hb1.out.size (fun k h => by cases h; exact Nat.le_refl _); simp only [Nat.zero_add, List.nil_append] at hown2; have HO2 : Hid (w2.ownsRow w.heap.size 5 1 (.slice (some ⟨w.heap.size, 0, none⟩) m 128) m (bv l)) := hown2; clear hown2 hgrow2)
    | (at_builtin; refine wpList_append_fits _ rfl (.tmp 12) (.tmp 13) 47 rfl w.heap.size 5 i0 1 Tryz.underlying47 hi hz1 w.heap.size m 128 (bv l) rfl (HO2.out.alloc _) ⟨w2.heap.size, 0, none⟩ 1 1 (bv [128]) rfl rfl (World.news_of_block (heap_alloc_new w2 _)) (bv_one _) (by omega) ?_; intro w3 hown3 hgrow3; have hb3 : Hid (Below w.heap.size w w3) := (hb2.out.alloc hb2.out.size _).grown hgrow3 (by have := hb2.out.size; simp; omega) (fun k h => by cases h; exact Nat.le_refl _); have HO3 : Hid (w3.ownsRow w.heap.size 5 1 (.slice (some ⟨w.heap.size, 0, none⟩) (m + 1) 128) (m + 1) (bv (tail1 l 0))) := (by unfold tail1; rw [List.replicate_zero, List.append_nil, bv_append]; exact hown3); clear hown3 hgrow3))
  clear HO HO2 hb1 hb2
  go_loopw [5] (fun v wr => ∃ j : Nat, j ≤ nz m ∧ v = .slice (some ⟨w.heap.size, 0, none⟩) (m + 1 + j) 128 ∧ Hid (wr.ownsRow w.heap.size 5 1 (.slice (some ⟨w.heap.size, 0, none⟩) (m + 1 + j) 128) (m + 1 + j) (bv (tail1 l j))) ∧ Hid (Below w.heap.size w wr)) (fun v _ => 128 - (match v with | .slice _ k _ => k | _ => 0))
  case atStart => exact ⟨0, Nat.zero_le _, rfl, HO3, hb3⟩
  case round =>
    clear HO3 hb3
    obtain ⟨j, hj, rfl, HO, hb⟩ := hrel
    by_cases hlt : j < nz m
    · have hne := z3 j hlt
      clear z1 z3
      go_wp2_with (at_builtin; refine wpList_append_fits _ rfl _ _ 47 rfl w.heap.size 5 i0 1 Tryz.underlying47 hi hz1 w.heap.size (m + 1 + j) 128 _ rfl (HO.out.alloc _) ⟨wr.heap.size, 0, none⟩ 1 1 (bv [0]) rfl rfl (World.news_of_block (heap_alloc_new wr _)) (bv_one _) (by omega) ?_; intro w3 hown3 hgrow3)
      have hb3 : Hid (Below w.heap.size w w3) := (hb.out.alloc hb.out.size _).grown hgrow3 (by have := hb.out.size; simp; omega) (fun k h => by cases h; exact Nat.le_refl _)
      have HO3 : Hid (w3.ownsRow w.heap.size 5 1 (.slice (some ⟨w.heap.size, 0, none⟩) (m + 1 + (j + 1)) 128) (m + 1 + (j + 1)) (bv (tail1 l (j + 1)))) := by rw [tail1_succ, bv_append]; exact hown3
      clear hown3 hgrow3 HO hb hne
      go_wp2
      go_roundw
      case rel => exact ⟨j + 1, by omega, rfl, HO3, hb3⟩
      case measure => simp; omega
    · have hj2 : j = nz m := by omega
      subst hj2
      clear z3 hlt hj
      have hbf : ((((m : Int) + 1 + (nz m : Nat)) % 64) != 56) = false := by simp; omega
      go_wp2
      clear hbf
      go_loopw [5, 7] (fun v i ws => ∃ j : Nat, j ≤ 8 ∧ i = .int .i64 (56 - 8 * (j : Int)) ∧ v = .slice (some ⟨w.heap.size, 0, none⟩) (m + 1 + nz m + j) 128 ∧ Hid (ws.ownsRow w.heap.size 5 1 (.slice (some ⟨w.heap.size, 0, none⟩) (m + 1 + nz m + j) 128) (m + 1 + nz m + j) (bv (tail1 l (nz m) ++ (be64 (n * 8)).take j))) ∧ Hid (Below w.heap.size w ws)) (fun v _ _ => 128 - (match v with | .slice _ k _ => k | _ => 0))
      case atStart => exact ⟨0, Nat.zero_le _, rfl, rfl, by rw [List.take_zero, List.append_nil]; exact HO, hb⟩
      case round =>
        clear HO hb
        obtain ⟨j, hj, rfl, rfl, HO, hb⟩ := hrel
        by_cases hlt : j < 8
        · have q0 : (0 : Int) ≤ 56 - 8 * (j : Int) := by omega
          have q1 : (56 : Int) - 8 * (j : Int) ≤ 64 := by omega
          have q2 : (56 - 8 * (j : Int)).toNat = 56 - 8 * j := by omega
          have q3 : IntKind.u8.wrap ((n : Int) * 8 / 2 ^ (56 - 8 * j)) = ((UInt8.ofNat (n * 8 / 2 ^ (56 - 8 * j))).toNat : Int) := by have := byteN (n * 8) (56 - 8 * j); rwa [Int.natCast_mul] at this
          go_wp2_with (at_builtin; refine wpList_append_fits _ rfl _ _ 47 rfl w.heap.size 5 i0 1 Tryz.underlying47 hi hz1 w.heap.size (m + 1 + nz m + j) 128 _ rfl (HO.out.alloc _) ⟨wr.heap.size, 0, none⟩ 1 1 (bv [UInt8.ofNat (n * 8 / 2 ^ (56 - 8 * j))]) rfl rfl (World.news_of_block (heap_alloc_new wr _)) (bv_one _) (by omega) ?_; intro w3 hown3 hgrow3)
          have hb3 : Hid (Below w.heap.size w w3) := (hb.out.alloc hb.out.size _).grown hgrow3 (by have := hb.out.size; simp; omega) (fun k h => by cases h; exact Nat.le_refl _)
          have HO3 : Hid (w3.ownsRow w.heap.size 5 1 (.slice (some ⟨w.heap.size, 0, none⟩) (m + 1 + nz m + (j + 1)) 128) (m + 1 + nz m + (j + 1)) (bv (tail1 l (nz m) ++ (be64 (n * 8)).take (j + 1)))) := by rw [be64_take _ _ hlt, ← List.append_assoc, bv_append]; exact hown3
          clear hown3 hgrow3 HO hb q3
          go_wp2
          go_roundw
          case rel => exact ⟨j + 1, by omega, by go_num, rfl, HO3, hb3⟩
          case measure => simp; omega
        · have hj2 : j = 8 := by omega
          subst hj2
          go_wp2
          go_ret
          exact ⟨rfl, HO.out, hb.out⟩
end Go.Proofs.YtogphpejdnhnjaaGreatDoor.Sha
namespace Go.Proofs.YtogphpejdnhnjaaGreatDoor.Sha
open Go.RowKit

set_option maxHeartbeats 1000000 in
set_option maxRecDepth 100000 in
theorem takeAll_zero (s : St) (ao : Option Addr) (cap : Nat) (w : World) :
    Calls Tryz.prog 66 #[.agg #[.int .u32 (U s.a), .int .u32 (U s.b), .int .u32 (U s.c), .int .u32 (U s.d), .int .u32 (U s.e), .int .u32 (U s.f), .int .u32 (U s.g), .int .u32 (U s.h)], .slice ao 0 cap] w
      fun e w' => e = .returned (.agg s.vals) ∧ Below w.heap.size w w' := by
  have hg : Hid (((w.alloc (.cells s.vals 155)).alloc (.cells #[.int .u32 0, .int .u32 0, .int .u32 0, .int .u32 0, .int .u32 0, .int .u32 0, .int .u32 0, .int .u32 0] 155)).heap[w.heap.size]? = some (.cells s.vals 155 (0, 0))) := heap_alloc2_old w _ _
  have hg1 : Hid (((w.alloc (.cells s.vals 155)).alloc (.cells #[.int .u32 0, .int .u32 0, .int .u32 0, .int .u32 0, .int .u32 0, .int .u32 0, .int .u32 0, .int .u32 0] 155)).heap[w.heap.size + 1]? = some (.cells #[.int .u32 0, .int .u32 0, .int .u32 0, .int .u32 0, .int .u32 0, .int .u32 0, .int .u32 0, .int .u32 0] 155 (0, 0))) := heap_alloc2_new w _ _
  go_enter Tryz.func66, Tryz.ntmps66
  go_wp2
  refine wp_loop_rounds 1 ?_
  rw [rounds_succ]
  go_wp2_with (first
    | (refine wpList_load_row rfl 155 _ rfl w.heap.size rfl 155 s.vals (0, 0) _ hg.out Tryz.underlying155 rfl (size31v _) ?_)
    | (refine wpList_store_row rfl 155 _ _ rfl (w.heap.size + 1) _ rfl rfl 155 _ hg1.out (size31v s) rfl (vals_one _) ?_))
  refine bodyPost_ret (v := .agg s.vals) ?_ rfl ⟨rfl, below_setRow (((Below.refl _ _).alloc (Nat.le_refl _) _).alloc (by show _ ≤ (w.heap.push _).size; simp) _) (by omega) _⟩
  exact results_cell_row Tryz.results66 _ _ (w.heap.size + 1) 155 _ (0, 0) _ rfl (setRow_heap _ _ _ _ _ _ hg1.out) Tryz.underlying155 rfl (size31v _)

theorem cells8z {w : World} {B : Nat} (h : w.heap[B]? = some (.cells #[.int .u32 0, .int .u32 0, .int .u32 0, .int .u32 0, .int .u32 0, .int .u32 0, .int .u32 0, .int .u32 0] 155 (0, 0))) :
    w.cell? ⟨B, 0, none⟩ = some (.int .u32 0) ∧ w.cell? ⟨B, 1, none⟩ = some (.int .u32 0) ∧ w.cell? ⟨B, 2, none⟩ = some (.int .u32 0) ∧ w.cell? ⟨B, 3, none⟩ = some (.int .u32 0) ∧ w.cell? ⟨B, 4, none⟩ = some (.int .u32 0) ∧ w.cell? ⟨B, 5, none⟩ = some (.int .u32 0) ∧ w.cell? ⟨B, 6, none⟩ = some (.int .u32 0) ∧ w.cell? ⟨B, 7, none⟩ = some (.int .u32 0) ∧ ∀ i, w.frozen? ⟨B, i, none⟩ = false := by
  refine ⟨?_, ?_, ?_, ?_, ?_, ?_, ?_, ?_, fun i => frozen_of_row _ _ _ _ _ h⟩ <;> (rw [cell_of_row _ _ _ _ _ _ h]; rfl)
theorem keep {p : Prop} (h : p) : Hid p := h
def Fst (w : World) : Prop := ∀ i, i < 8 → w.cell? ⟨0, i, none⟩ = some (.int .u32 (U (st0.list.getD i 0)))

set_option maxHeartbeats 1000000 in
set_option maxRecDepth 100000 in
theorem sum_core (ao ao2 : Option Addr) (m c r whole c2 : Nat) (l2 : List UInt8) (σ : St) (w : World) (hm : m ≤ 140737488355328) (hr : m % 64 = r) (hw : m - r = whole) (hT : Tab w) (hF : Fst w)
    (hs1 : ∀ w', (Instr.slice 47 (.slice ao m c) none (some (.int .i64 (whole : Int))) none).run Tryz.prog w' = .ok (.slice ao whole c) w')
    (hs2 : ∀ w', (Instr.slice 47 (.slice ao m c) (some (.int .i64 (whole : Int))) none none).run Tryz.prog w' = .ok (.slice ao2 r c2) w')
    (k1 : ∀ w', Below w.heap.size w w' → Calls Tryz.prog 66 #[.agg #[.int .u32 (U st0.a), .int .u32 (U st0.b), .int .u32 (U st0.c), .int .u32 (U st0.d), .int .u32 (U st0.e), .int .u32 (U st0.f), .int .u32 (U st0.g), .int .u32 (U st0.h)], .slice ao whole c] w' fun e w'' => e = .returned (.agg #[.int .u32 (U σ.a), .int .u32 (U σ.b), .int .u32 (U σ.c), .int .u32 (U σ.d), .int .u32 (U σ.e), .int .u32 (U σ.f), .int .u32 (U σ.g), .int .u32 (U σ.h)]) ∧ Below w'.heap.size w' w'')
    (k2 : Src w ao2 r c2 l2) :
    Calls Tryz.prog 30 #[.slice ao m c] w fun e w' => e = .returned (.string ⟨(blk (fn (tail1 l2 (nz r) ++ be64 (m * 8))) ((r + 1 + nz r + 8) / 64) σ).bytes.toArray⟩) ∧ Below w.heap.size w w' := by
  have f0 : w.cell? ⟨0, 0, none⟩ = some (.int .u32 (U st0.a)) := hF 0 (by omega)
  have f1 : w.cell? ⟨0, 1, none⟩ = some (.int .u32 (U st0.b)) := hF 1 (by omega)
  have f2 : w.cell? ⟨0, 2, none⟩ = some (.int .u32 (U st0.c)) := hF 2 (by omega)
  have f3 : w.cell? ⟨0, 3, none⟩ = some (.int .u32 (U st0.d)) := hF 3 (by omega)
  have f4 : w.cell? ⟨0, 4, none⟩ = some (.int .u32 (U st0.e)) := hF 4 (by omega)
  have f5 : w.cell? ⟨0, 5, none⟩ = some (.int .u32 (U st0.f)) := hF 5 (by omega)
  have f6 : w.cell? ⟨0, 6, none⟩ = some (.int .u32 (U st0.g)) := hF 6 (by omega)
  have f7 : w.cell? ⟨0, 7, none⟩ = some (.int .u32 (U st0.h)) := hF 7 (by omega)
  have h0 : 0 < w.heap.size := World.block_lt_of_cell? w _ f0
  have hwh : (m : Int) - (m : Int) % 64 = (whole : Int) := by omega
  have K1a := keep (k1 w.drew (Below.refl _ _).drew)
  have K1b := keep (k1 (w.alloc (.cells #[.int .u32 0, .int .u32 0, .int .u32 0, .int .u32 0, .int .u32 0, .int .u32 0, .int .u32 0, .int .u32 0] 155)).drew ((Below.refl _ _).alloc (Nat.le_refl _) _).drew)
  clear k1
  go_enter Tryz.func30, Tryz.ntmps30
  go_wp2
  go_region_with (first | (go_at_call 66; go_fit K1a.out; rintro e w1 ⟨rfl, hb1⟩) | (go_at_call 66; go_fit K1b.out; rintro e w1 ⟨rfl, hb1⟩; obtain ⟨d0, d1, d2, d3, d4, d5, d6, d7, d8⟩ := cells8z ((hb1.block w.heap.size (by simp)).trans (heap_alloc_new w _))))
  all_goals first
    | (have hgx := keep (heap_alloc_new w1 (.cells σ.vals 155)); have hbx := keep ((((Below.refl w.heap.size w).drew.trans (hb1.mono (Nat.le_refl _))).alloc hb1.size (.cells σ.vals 155)) : Below w.heap.size w (w1.alloc (.cells σ.vals 155))); change Exit.then _ _ _ _ (w1.alloc (.cells σ.vals 155)); generalize w1.alloc (.cells σ.vals 155) = wx at hgx hbx ⊢; generalize w1.heap.size = B at hgx hbx ⊢; clear hb1)
    | (have hgx := keep (set8_same σ (σ := ⟨0, 0, 0, 0, 0, 0, 0, 0⟩) ((hb1.block w.heap.size (by simp)).trans (heap_alloc_new w _))); have hbx := keep (set8_below (B := w.heap.size) σ (Nat.le_refl _) ((((Below.refl w.heap.size w).alloc (Nat.le_refl _) _).drew).trans (hb1.mono (by simp)))); change Exit.then _ _ _ _ (set8 w1 w.heap.size σ); generalize set8 w1 w.heap.size σ = wx at hgx hbx ⊢; generalize w.heap.size = B at hgx ⊢; clear hb1 d0 d1 d2 d3 d4 d5 d6 d7 d8)
  all_goals
    have hBlt : B < wx.heap.size := by
      rcases Nat.lt_or_ge B wx.heap.size with h | h
      · exact h
      · have := hgx.out; rw [Array.getElem?_eq_none h] at this; cases this
    have hrl : r < 64 := by omega
    obtain ⟨L, hL⟩ : ∃ L, tail1 l2 (nz r) ++ be64 (m * 8) = L := ⟨_, rfl⟩
    obtain ⟨q, hq⟩ : ∃ q, r + 1 + nz r + 8 = q := ⟨_, rfl⟩
    have hq1 : q ≤ 128 := by have := (nz_of r).2.1; have := (nz_of r).1; omega
    have hLq : L.length = q := by rw [← hL, List.length_append, tail1_length, k2.len, ← hq]; rfl
    have KE := keep ((ending_any ao2 r c2 l2 m wx.drew hrl hm ((k2.below hbx.out).below (Below.refl _ _).drew)))
    rw [hL, hq] at KE
    obtain ⟨τ, hτ⟩ : ∃ τ, blk (fn L) (q / 64) σ = τ := ⟨_, rfl⟩
    have KT : Hid (∀ w2 : World, w2.ownsRow wx.heap.size 5 1 (.slice (some ⟨wx.heap.size, 0, none⟩) q 128) q (bv L) → Below wx.heap.size wx.drew w2 → Calls Tryz.prog 66 #[.agg #[.int .u32 (U σ.a), .int .u32 (U σ.b), .int .u32 (U σ.c), .int .u32 (U σ.d), .int .u32 (U σ.e), .int .u32 (U σ.f), .int .u32 (U σ.g), .int .u32 (U σ.h)], .slice (some ⟨wx.heap.size, 0, none⟩) q 128] w2 fun e w' => e = .returned (.agg τ.vals) ∧ Below w2.heap.size w2 w') := by
      intro w2 ho hb2
      have hsb := (Src.owns ho)
      have hlt2 := (ho.lt wx.heap.size rfl).2
      have h1lt : 2 < w.heap.size := World.block_lt_of_cell? w _ (hT 0 (by omega))
      have hwx := hbx.out.size
      rw [← hτ]
      refine takeAll_any σ wx.heap.size 0 q 128 (fn L) w2 (by omega) hq1 (by unfold maxLen; omega) ?_ ?_ hlt2
      · intro i hi
        have := hsb.cells _ rfl i _ (bv_at L i (by omega))
        rwa [Addr.add_mid] at this
      · intro i hi
        rw [hb2.cell (p := ⟨2, i, none⟩) (by show 2 < wx.heap.size; omega)]
        show wx.cell? _ = _
        rw [hbx.out.cell (p := ⟨2, i, none⟩) h1lt]
        exact hT i hi
    have Hfin : Hid (blk (fn (tail1 l2 (nz r) ++ be64 (m * 8))) ((r + 1 + nz r + 8) / 64) σ = τ) := by rw [hL, hq, hτ]; rfl
    obtain ⟨c0, c1, c2', c3, c4, c5, c6, c7, _⟩ := cells8 hgx.out
    clear hτ hL hq hs1 K1a K1b f0 f1 f2 f3 f4 f5 f6 f7 hT hF
    go_wp2_with fail
    go_region_with (first | (go_at_call 68; go_fit KE.out; rintro e w2 ⟨rfl, hown2, hb2⟩; have HO2 := keep hown2; have HB2 := keep hb2; clear hown2 hb2; obtain ⟨e0, e1, e2, e3, e4, e5, e6, e7, _⟩ := cells8 ((HB2.out.block B hBlt).trans hgx.out)) | (go_at_call 66; go_fit (KT.out w2 HO2.out HB2.out); rintro e w3 ⟨rfl, hb3⟩) | (go_at_call 67; go_fit (text_any τ w3); rintro e w4 ⟨rfl, hb4⟩))
    all_goals
      go_wp2
      go_ret
      exact ⟨by rw [Hfin.out]; rfl, ((hbx.out.drew.trans (HB2.out.mono hbx.out.size)).trans (hb3.mono (Nat.le_trans hbx.out.size HB2.out.size))).trans (hb4.mono (Nat.le_trans (Nat.le_trans hbx.out.size HB2.out.size) hb3.size))⟩
end Go.Proofs.YtogphpejdnhnjaaGreatDoor.Sha
namespace Go.Proofs.YtogphpejdnhnjaaGreatDoor.Sha
open Go.RowKit

def f8 : List Int := [1779033703, 3144134277, 1013904242, 2773480762, 1359893119, 2600822924, 528734635, 1541459225]
def k64 : List Int := [1116352408, 1899447441, 3049323471, 3921009573, 961987163, 1508970993, 2453635748, 2870763221, 3624381080, 310598401, 607225278, 1426881987, 1925078388, 2162078206, 2614888103, 3248222580, 3835390401, 4022224774, 264347078, 604807628, 770255983, 1249150122, 1555081692, 1996064986, 2554220882, 2821834349, 2952996808, 3210313671, 3336571891, 3584528711, 113926993, 338241895, 666307205, 773529912, 1294757372, 1396182291, 1695183700, 1986661051, 2177026350, 2456956037, 2730485921, 2820302411, 3259730800, 3345764771, 3516065817, 3600352804, 4094571909, 275423344, 430227734, 506948616, 659060556, 883997877, 958139571, 1322822218, 1537002063, 1747873779, 1955562222, 2024104815, 2227730452, 2361852424, 2428436474, 2756734187, 3204031479, 3329325298]
theorem gFst : Tryz.prog.globalNamed "sawyer/sha.first" = some 0 := by kernel_rfl
theorem gTab : Tryz.prog.globalNamed "sawyer/sha.table" = some 2 := by kernel_rfl
theorem gFstT : (Tryz.prog.globals[0]?).map (·.type) = some 155 := by kernel_rfl
theorem gTabT : (Tryz.prog.globals[2]?).map (·.type) = some 283 := by kernel_rfl
theorem cells31 : Tryz.prog.cellsOf 155 = 8 := by kernel_rfl
theorem cells45 : Tryz.prog.cellsOf 283 = 64 := by kernel_rfl
theorem cells29 : Tryz.prog.cellsOf 153 = 1 := by kernel_rfl
theorem f8_is : f8 = st0.list.map U := by decide +kernel
theorem k64_is : k64 = kt.map U := by decide +kernel
theorem laid_both {W : World} (h' : laidMet Tryz.prog [("sawyer/sha.first", Lib.tabData .u32 f8), ("sawyer/sha.table", Lib.tabData .u32 k64)] W) : Fst W ∧ Tab W := by
  have t1 := Lib.tabIs_of_head gFst gFstT Tryz.underlying155 Tryz.underlying153 cells29 cells31 h'
  have t2 := Lib.tabIs_of_head gTab gTabT Tryz.underlying283 Tryz.underlying153 cells29 cells45 h'.tail
  refine ⟨fun i hi => ?_, fun i hi => ?_⟩
  · have := t1.cell gFst i hi
    rw [this, f8_is]
    have hl : i < st0.list.length := hi
    simp [List.getD, hl]
  · have := t2.cell gTab i hi
    rw [this, k64_is]
    unfold kk
    have hl : i < kt.length := hi
    simp [List.getD, hl]
/-- The world w, but that the two variables hold what their initialisers lay. -/
def laidIn (w : World) : World :=
  { w with heap := (w.heap.modify 0 fun
      | .cells _ t frozen => .cells #[.int .u32 1779033703, .int .u32 3144134277, .int .u32 1013904242, .int .u32 2773480762, .int .u32 1359893119, .int .u32 2600822924, .int .u32 528734635, .int .u32 1541459225] t frozen
      | o => o).modify 2 fun
      | .cells _ t frozen => .cells #[.int .u32 1116352408, .int .u32 1899447441, .int .u32 3049323471, .int .u32 3921009573, .int .u32 961987163, .int .u32 1508970993, .int .u32 2453635748, .int .u32 2870763221, .int .u32 3624381080, .int .u32 310598401, .int .u32 607225278, .int .u32 1426881987, .int .u32 1925078388, .int .u32 2162078206, .int .u32 2614888103, .int .u32 3248222580, .int .u32 3835390401, .int .u32 4022224774, .int .u32 264347078, .int .u32 604807628, .int .u32 770255983, .int .u32 1249150122, .int .u32 1555081692, .int .u32 1996064986, .int .u32 2554220882, .int .u32 2821834349, .int .u32 2952996808, .int .u32 3210313671, .int .u32 3336571891, .int .u32 3584528711, .int .u32 113926993, .int .u32 338241895, .int .u32 666307205, .int .u32 773529912, .int .u32 1294757372, .int .u32 1396182291, .int .u32 1695183700, .int .u32 1986661051, .int .u32 2177026350, .int .u32 2456956037, .int .u32 2730485921, .int .u32 2820302411, .int .u32 3259730800, .int .u32 3345764771, .int .u32 3516065817, .int .u32 3600352804, .int .u32 4094571909, .int .u32 275423344, .int .u32 430227734, .int .u32 506948616, .int .u32 659060556, .int .u32 883997877, .int .u32 958139571, .int .u32 1322822218, .int .u32 1537002063, .int .u32 1747873779, .int .u32 1955562222, .int .u32 2024104815, .int .u32 2227730452, .int .u32 2361852424, .int .u32 2428436474, .int .u32 2756734187, .int .u32 3204031479, .int .u32 3329325298] t frozen
      | o => o }
end Go.Proofs.YtogphpejdnhnjaaGreatDoor.Sha
