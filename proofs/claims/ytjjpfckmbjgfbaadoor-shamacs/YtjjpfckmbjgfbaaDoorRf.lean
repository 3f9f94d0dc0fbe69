/- The walk of the document's Mac. -/
import Derived.Test.YtjjpfckmbjgfbaaDoorRe
import Derived.Test.YtjjpfckmbjgfbaaDoorC
namespace Go.Proofs.YtjjpfckmbjgfbaaDoor
open Go.RowKit
attribute [local go_sem] u8_xor

theorem fn_zeros (K : List UInt8) (j i : Nat) : fn (K ++ List.replicate j 0) i = fn K i := by
  rcases Nat.lt_or_ge i K.length with h | h
  · exact fn_left _ _ _ h
  · rw [kb_zero K i h]
    unfold fn
    rw [List.getD_eq_getElem?_getD, List.getElem?_append_right h, List.getElem?_replicate]
    split <;> rfl
theorem zeros_succ (K : List UInt8) (j : Nat) : K ++ List.replicate (j + 1) 0 = (K ++ List.replicate j 0) ++ [0] := by rw [List.replicate_succ', List.append_assoc]

set_option maxHeartbeats 1000000 in
set_option maxRecDepth 100000 in
theorem rmac_any (ao : Option Addr) (m c : Nat) (key : List UInt8) (ao2 : Option Addr) (m2 c2 : Nat) (l : List UInt8) (w : World) (hm : m ≤ 140737488351232) (hm2 : m2 ≤ 140737488351232) (hs : Src w ao m c key) (hs2 : Src w ao2 m2 c2 l) :
    Calls Tryd.prog 11 #[.slice ao m c, .slice ao2 m2 c2] w fun e w' => e = .returned (.string ⟨(mac key l).toArray⟩) ∧ Below w.heap.size w w' := by
  obtain ⟨i0, hi, hz0, hz1, hz2⟩ := info_parts info5
  have HS := keep hs
  have HS2 := keep hs2
  clear hs hs2
  obtain ⟨sm, hsm⟩ : ∃ sm, sum key = sm := ⟨_, rfl⟩
  have hsl : sm.length = 32 := by rw [← hsm]; exact sum_length key
  have hcv := conv_str sm 32 hsl
  have hkey := HS.out.len
  have hk1 : Hid (64 < m → kb key = fn sm) := fun h => by funext j; unfold kb; rw [if_pos (by omega), hsm]
  have hk2 : Hid (¬ 64 < m → kb key = fn key) := fun h => by funext j; unfold kb; rw [if_neg (by omega)]
  have HSM := keep hsm
  clear hsm
  have hmk : ∃ k : Nat → UInt8, kb key = k := ⟨_, rfl⟩
  obtain ⟨k, hkk⟩ := hmk
  rw [hkk] at hk1 hk2
  have HKK := keep hkk
  clear hkk
  by_cases h64 : 64 < m
  · have h64i : (64 : Int) < (m : Int) := by omega
    go_enter Tryd.func11, Tryd.ntmps11
    go_wp2_with (at_builtin; refine wpList_append_src rfl _ _ 22 rfl w.heap.size i0 _ Tryd.underlying22 hi hz0 hz1 hz2 rfl _ 0 [] rfl (World.ownsRow_made w #[] 0 (Nat.le_refl _) (by unfold maxLen; omega) rfl) _ m c key rfl (HS.out.below ((Below.refl _ _).alloc (Nat.le_refl _) _)) (by omega) (by simp) ?_; intro v1 w1 ho1 hg1; simp only [Nat.zero_add, List.nil_append] at ho1; obtain ⟨a1, c1, rfl, _, _⟩ := Src.of_own ho1; have hb1 := keep (((Below.refl w.heap.size w).alloc (Nat.le_refl _) _).grown hg1 (by simp) (fun j hj => by cases hj; exact Nat.le_refl _)); clear ho1 hg1)
    refine (rsum_any ao m c key w1 (by omega) (HS.out.below hb1.out)).mono ?_
    rintro e w2 ⟨rfl, hb2⟩
    rw [HSM.out]
    have hbq := keep (hb1.out.trans (hb2.mono hb1.out.size))
    have hbq2 := keep (hbq.out.trans ((below_bytesWorld w2 ⟨sm.toArray⟩).mono hbq.out.size))
    have HW := keep (Wr.converted w2 sm 32 hsl (by unfold maxLen; omega))
    have hkf : Hid (k = fn sm) := hk1.out h64
    have hwq : w.heap.size ≤ w2.heap.size := hbq.out.size
    have hw2q : w2.heap.size ≤ (Lib.bytesWorld w2 5 ⟨sm.toArray⟩).heap.size := (below_bytesWorld w2 _).size
    clear hb2 hb1 hk1 hk2 hbq
    go_wp2
    generalize Lib.bytesWorld w2 5 ⟨sm.toArray⟩ = wq at hbq2 HW hw2q ⊢
    generalize w2.heap.size = gq at HW hwq hw2q ⊢
    generalize grownCap w2 32 0 5 = cq at HW ⊢
    go_loopw [5] (fun v wr => ∃ j g cp : Nat, 32 + j ≤ 64 ∧ v = .slice (some ⟨g, 0, none⟩) (32 + j) cp ∧ Hid (Wr wr gq g (32 + j) cp (sm ++ List.replicate j 0)) ∧ Hid (Below gq wq wr)) (fun v _ => 128 - (match v with | .slice _ k _ => k | _ => 0))
    case atStart => exact ⟨0, gq, cq, by omega, rfl, by rw [List.replicate_zero, List.append_nil]; exact HW, Below.refl _ _⟩
    case round =>
      clear HW
      obtain ⟨j, gk, ck, hj, rfl, HW, hbj⟩ := hrel
      by_cases hlt : 32 + j < 64
      · have hlti : (32 : Int) + (j : Int) < 64 := by omega
        go_wp2_with (at_builtin; refine wpList_append_wr rfl _ _ 22 rfl i0 _ Tryd.underlying22 hi hz0 hz1 hz2 rfl gq gk (32 + j) ck _ 0 _ rfl (HW.out.alloc _) rfl (Src.go (l := [0]) Tryd.underlying22 (Src.block (heap_alloc_new wr _) rfl)) (by omega) (le_alloc (Nat.le_trans hw2q hbj.out.size) _) ?_; intro g3 cp3 w3 hw3 hb3)
        have HW3 : Hid (Wr w3 gq g3 (32 + (j + 1)) cp3 (sm ++ List.replicate (j + 1) 0)) := by rw [zeros_succ]; exact hw3
        have hb4 : Hid (Below gq wq w3) := (hbj.out.alloc (Nat.le_trans hw2q hbj.out.size) _).trans hb3
        clear hw3 hb3 HW hbj
        go_wp2
        go_roundw
        case rel => exact ⟨j + 1, g3, cp3, by omega, rfl, HW3, hb4⟩
        case measure => simp; omega
      · have hj2 : j = 32 := by omega
        subst hj2
        obtain ⟨wk, rfl⟩ : ∃ wk, wk = wr := ⟨_, rfl⟩
        have HK : Hid (∀ i, i < 64 → wk.cell? ⟨gk, i, none⟩ = some (.int .u8 ((k i).toNat : Int))) := fun i hi => by
          obtain ⟨b0, off0, hab, _, hby⟩ := HW.out.src.form (by omega)
          cases hab
          have := hby i hi
          rw [Nat.zero_add, fn_zeros] at this
          rw [this, hkf.out]
        have hgk : gk < wk.heap.size := HW.out.lt
        have hbk : Hid (Below w.heap.size w wk) := hbq2.out.trans (hbj.out.mono hwq)
        have hckk := HW.out.cap_le
        clear HW hbj hbq2
        go_wp2
        go_loopw [6, 7, 8] (fun vi vo i wr => ∃ n : Nat, n ≤ 64 ∧ i = .int .i64 n ∧ Hid (wr.ownsRow wk.heap.size 5 1 vi n (bv (upto k 54 n))) ∧ Hid (wr.ownsRow wk.heap.size 5 1 vo n (bv (upto k 92 n))) ∧ Hid (∀ g, vi.ownBlock = some g → vo.ownBlock ≠ some g) ∧ Hid (Below wk.heap.size wk wr)) (fun _ _ i _ => 64 - (intOf i).toNat)
        case atStart => exact ⟨0, by omega, rfl, World.ownsRow_nil _ _ _ _, World.ownsRow_nil _ _ _ _, (fun g h => by cases h), Below.refl _ _⟩
        case round =>
          obtain ⟨n, hn, rfl, hoi, hoo, hne, hb⟩ := hrel
          by_cases hlt : n < 64
          · have d1 : wr.cell? ⟨gk, n, none⟩ = some (.int .u8 ((k n).toNat : Int)) := by rw [hb.out.cell (p := ⟨gk, n, none⟩) hgk]; exact HK.out n hlt
            have x6 : bits .xor .u8 ((k n).toNat : Int) 54 = ((k n ^^^ 54).toNat : Int) := u8_xor (k n) 54
            have x5 : bits .xor .u8 ((k n).toNat : Int) 92 = ((k n ^^^ 92).toNat : Int) := u8_xor (k n) 92
            have n0 : (0 : Int) ≤ (n : Int) := by omega
            have n1 : (n : Int) < 64 := by omega
            go_wp2_with (first
              | (at_builtin; refine wpList_append_lies _ rfl (.tmp 28) (.tmp 34) 22 rfl wk.heap.size 5 i0 _ 1 1 Tryd.underlying22 hi hz0 hz1 hz2 rfl (by omega) _ n _ rfl (hoi.out.alloc _) ⟨wr.heap.size, 0, none⟩ 1 1 (bv [k n ^^^ 54]) rfl rfl (World.news_of_block (heap_alloc_new wr _)) (bv_one _) (by omega) (by unfold maxLen; omega) (by omega) (le_alloc hb.out.size _) (wr.heap.size + 1) (alloc_size _ _) ?_; intro g1 cap1 wa hoa hga hata _; have hoo1 := keep ((hoo.out.alloc _).kept hga (own_apart hoo.out hne.out)); have hb1 := keep ((hb.out.alloc hb.out.size _).grown hga (le_alloc hb.out.size _) (fun j hj => (hoi.out.lt j hj).1)); have hne1 := keep (lies_apart (m := n + 1) (cap := cap1) (wr.heap.size + 1) hoo.out hne.out hata (Nat.le_succ _)); have hoi1 := keep hoa; have d2 : wa.cell? ⟨gk, n, none⟩ = some (.int .u8 ((k n).toNat : Int)) := (by rw [hb1.out.cell (p := ⟨gk, n, none⟩) hgk]; exact HK.out n hlt); clear hoa hga hata)
              | (at_builtin; refine wpList_append_lies _ rfl (.tmp 36) (.tmp 42) 22 rfl wk.heap.size 5 i0 _ 1 1 Tryd.underlying22 hi hz0 hz1 hz2 rfl (by omega) _ n _ rfl (hoo1.out.alloc _) ⟨wa.heap.size, 0, none⟩ 1 1 (bv [k n ^^^ 92]) rfl rfl (World.news_of_block (heap_alloc_new wa _)) (bv_one _) (by omega) (by unfold maxLen; omega) (by omega) (le_alloc hb1.out.size _) (wa.heap.size + 1) (alloc_size _ _) ?_; intro g2 cap2 wb hob hgb hatb _; have hoi2 := keep ((hoi1.out.alloc _).kept hgb (own_apart' hoi1.out hne1.out)); have hb2 := keep ((hb1.out.alloc hb1.out.size _).grown hgb (le_alloc hb1.out.size _) (fun j hj => (hoo1.out.lt j hj).1)); have hne2 := keep (lies_apart' (m := n + 1) (cap := cap2) (wa.heap.size + 1) hoi1.out hne1.out hatb (Nat.le_succ _)); have hoo2 := keep hob; clear hob hgb hatb))
            have ho6 : Hid (wb.ownsRow wk.heap.size 5 1 (.slice (some ⟨g1, 0, none⟩) (n + 1) cap1) (n + 1) (bv (upto k 54 (n + 1)))) := by rw [upto_succ, bv_append]; exact hoi2.out
            have ho5 : Hid (wb.ownsRow wk.heap.size 5 1 (.slice (some ⟨g2, 0, none⟩) (n + 1) cap2) (n + 1) (bv (upto k 92 (n + 1)))) := by rw [upto_succ, bv_append]; exact hoo2.out
            clear hoi2 hoo2 hoi1 hoo1 hoi hoo hb1 hne1 hne hb d1 d2
            go_wp2
            go_roundw
            case rel => first | exact ⟨n + 1, by omega, by go_num, ho6, ho5, hne2, hb2⟩ | ((repeat apply Exists.intro); exact ⟨⟨n + 1, by omega, by go_num, ho6, ho5, hne2, hb2⟩, rfl⟩)
            case measure => simp [intOf]; omega
          · have hn2 : n = 64 := by omega
            subst hn2
            have hbw := keep (hbk.out.trans (hb.out.mono hbk.out.size))
            go_wp2_with (at_builtin; refine wpList_append_src rfl (.tmp 44) (.tmp 45) 22 rfl wk.heap.size i0 _ Tryd.underlying22 hi hz0 hz1 hz2 rfl _ 64 (upto k 54 64) rfl hoi.out _ m2 c2 l rfl (HS2.out.below hbw.out) (by omega) hb.out.size ?_; intro v1 wa hoa hga; have hoo1 := keep (hoo.out.kept hga (own_apart hoo.out hne.out)); have hb1 := keep (hb.out.grown hga hb.out.size (fun j hj => (hoi.out.lt j hj).1)); obtain ⟨a1, c1, rfl, hs1, hc1⟩ := Src.of_own hoa; have HS1 := keep hs1; clear hoa hga hs1)
            refine (rsum_any a1 (64 + m2) c1 _ wa (by omega) HS1.out).mono ?_
            rintro e w3 ⟨rfl, hb3⟩
            have hoo3 := keep (own_below hoo1.out hb3)
            have hb3' := keep (hb1.out.trans (hb3.mono hb1.out.size))
            clear hb3 hoo1 HS1
            obtain ⟨hh, hhh⟩ : ∃ hh, sum (upto k 54 64 ++ l) = hh := ⟨_, rfl⟩
            rw [hhh]
            have hhl : hh.length = 32 := by rw [← hhh]; exact sum_length _
            have HMAC : Hid (mac key l = sum (upto k 92 64 ++ hh)) := by unfold mac; rw [HKK.out, ← hhh]; rfl
            clear hhh
            go_wp2_with (at_builtin; refine wpList_append_own_string_if (by rfl) (.tmp 47) (.tmp 49) 22 9 rfl wk.heap.size i0 Tryd.underlying22 Tryd.underlying9 hi hz0 hz1 hz2 _ 64 (upto k 92 64) hh 32 rfl hoo3.out rfl hhl (by omega) hb3'.out.size ?_; intro v5 w5 ho5 hg5; have hb5 := keep (hb3'.out.grown hg5 hb3'.out.size (fun j hj => (hoo3.out.lt j hj).1)); obtain ⟨a5, c5, rfl, hs5, hc5⟩ := Src.of_own ho5; have HS5 := keep hs5; clear ho5 hg5 hs5)
            have hbw5 := keep (hbk.out.trans (hb5.out.mono hbk.out.size))
            refine (rsum_any a5 (64 + 32) c5 _ w5 (by omega) HS5.out).mono ?_
            rintro e w6 ⟨rfl, hb6⟩
            clear HS5
            go_wp2
            go_ret
            exact ⟨by rw [HMAC.out]; rfl, hbw5.out.trans (hb6.mono hbw5.out.size)⟩
  · have h64i : ¬ (64 : Int) < (m : Int) := by omega
    have hkf : Hid (k = fn key) := hk2.out h64
    clear hk1 hk2 hcv
    go_enter Tryd.func11, Tryd.ntmps11
    go_wp2_with (at_builtin; refine wpList_append_src rfl _ _ 22 rfl w.heap.size i0 _ Tryd.underlying22 hi hz0 hz1 hz2 rfl _ 0 [] rfl (World.ownsRow_made w #[] 0 (Nat.le_refl _) (by unfold maxLen; omega) rfl) _ m c key rfl (HS.out.below ((Below.refl _ _).alloc (Nat.le_refl _) _)) (by omega) (by simp) ?_; intro v1 w1 ho1 hg1; simp only [Nat.zero_add, List.nil_append] at ho1; have HO1 := keep ho1; obtain ⟨a1, c1, rfl, _, _⟩ := Src.of_own ho1; have hb1 := keep (((Below.refl w.heap.size w).alloc (Nat.le_refl _) _).grown hg1 (by simp) (fun j hj => by cases hj; exact Nat.le_refl _)); clear ho1 hg1)
    go_loopw [5] (fun v wr => ∃ (j : Nat) (a : Option Addr) (cp : Nat), m + j ≤ 64 ∧ v = .slice a (m + j) cp ∧ Hid (wr.ownsRow w.heap.size 5 1 (.slice a (m + j) cp) (m + j) (bv (key ++ List.replicate j 0))) ∧ Hid (Below w.heap.size w wr)) (fun v _ => 128 - (match v with | .slice _ k _ => k | _ => 0))
    case atStart => exact ⟨0, a1, c1, by omega, rfl, by rw [List.replicate_zero, List.append_nil]; exact HO1, hb1⟩
    case round =>
      clear HO1 hb1
      obtain ⟨j, aj, cj, hj, rfl, HO, hbj⟩ := hrel
      by_cases hlt : m + j < 64
      · have hlti : (m : Int) + (j : Int) < 64 := by omega
        go_wp2_with (at_builtin; refine wpList_append_lies _ rfl _ _ 22 rfl w.heap.size 5 i0 _ 1 1 Tryd.underlying22 hi hz0 hz1 hz2 rfl (by omega) _ (m + j) _ rfl (HO.out.alloc _) ⟨wr.heap.size, 0, none⟩ 1 1 (bv [0]) rfl rfl (World.news_of_block (heap_alloc_new wr _)) (bv_one _) (by omega) (by unfold maxLen; omega) (by omega) (le_alloc hbj.out.size _) (wr.heap.size + 1) (alloc_size _ _) ?_; intro g3 cp3 w3 ho3 hg3 _ _)
        have HO3 : Hid (w3.ownsRow w.heap.size 5 1 (.slice (some ⟨g3, 0, none⟩) (m + (j + 1)) cp3) (m + (j + 1)) (bv (key ++ List.replicate (j + 1) 0))) := by rw [zeros_succ, bv_append]; exact ho3
        have hb4 : Hid (Below w.heap.size w w3) := (hbj.out.alloc hbj.out.size _).grown hg3 (le_alloc hbj.out.size _) (fun i hi => (HO.out.lt i hi).1)
        clear ho3 hg3 HO hbj
        go_wp2
        go_roundw
        case rel => exact ⟨j + 1, some ⟨g3, 0, none⟩, cp3, by omega, rfl, HO3, hb4⟩
        case measure => simp; omega
      · have hj2 : m + j = 64 := by omega
        rw [hj2] at HO ⊢
        obtain ⟨gk, ck, hak, _, hgk⟩ := HO.out.form (by omega)
        cases hak
        obtain ⟨wk, rfl⟩ : ∃ wk, wk = wr := ⟨_, rfl⟩
        have HW := Wr.owns HO.out
        have HK : Hid (∀ i, i < 64 → wk.cell? ⟨gk, i, none⟩ = some (.int .u8 ((k i).toNat : Int))) := fun i hi => by
          obtain ⟨b0, off0, hab, _, hby⟩ := HW.src.form (by omega)
          cases hab
          have := hby i hi
          rw [Nat.zero_add, fn_zeros] at this
          rw [this, hkf.out]
        have hbk : Hid (Below w.heap.size w wk) := hbj.out
        have hckk := HW.cap_le
        clear HW HO hbj hlt
        go_wp2
        go_loopw [6, 7, 8] (fun vi vo i wr => ∃ n : Nat, n ≤ 64 ∧ i = .int .i64 n ∧ Hid (wr.ownsRow wk.heap.size 5 1 vi n (bv (upto k 54 n))) ∧ Hid (wr.ownsRow wk.heap.size 5 1 vo n (bv (upto k 92 n))) ∧ Hid (∀ g, vi.ownBlock = some g → vo.ownBlock ≠ some g) ∧ Hid (Below wk.heap.size wk wr)) (fun _ _ i _ => 64 - (intOf i).toNat)
        case atStart => exact ⟨0, by omega, rfl, World.ownsRow_nil _ _ _ _, World.ownsRow_nil _ _ _ _, (fun g h => by cases h), Below.refl _ _⟩
        case round =>
          obtain ⟨n, hn, rfl, hoi, hoo, hne, hb⟩ := hrel
          by_cases hlt : n < 64
          · have d1 : wr.cell? ⟨gk, n, none⟩ = some (.int .u8 ((k n).toNat : Int)) := by rw [hb.out.cell (p := ⟨gk, n, none⟩) hgk]; exact HK.out n hlt
            have x6 : bits .xor .u8 ((k n).toNat : Int) 54 = ((k n ^^^ 54).toNat : Int) := u8_xor (k n) 54
            have x5 : bits .xor .u8 ((k n).toNat : Int) 92 = ((k n ^^^ 92).toNat : Int) := u8_xor (k n) 92
            have n0 : (0 : Int) ≤ (n : Int) := by omega
            have n1 : (n : Int) < 64 := by omega
            go_wp2_with (first
              | (at_builtin; refine wpList_append_lies _ rfl (.tmp 28) (.tmp 34) 22 rfl wk.heap.size 5 i0 _ 1 1 Tryd.underlying22 hi hz0 hz1 hz2 rfl (by omega) _ n _ rfl (hoi.out.alloc _) ⟨wr.heap.size, 0, none⟩ 1 1 (bv [k n ^^^ 54]) rfl rfl (World.news_of_block (heap_alloc_new wr _)) (bv_one _) (by omega) (by unfold maxLen; omega) (by omega) (le_alloc hb.out.size _) (wr.heap.size + 1) (alloc_size _ _) ?_; intro g1 cap1 wa hoa hga hata _; have hoo1 := keep ((hoo.out.alloc _).kept hga (own_apart hoo.out hne.out)); have hb1 := keep ((hb.out.alloc hb.out.size _).grown hga (le_alloc hb.out.size _) (fun j hj => (hoi.out.lt j hj).1)); have hne1 := keep (lies_apart (m := n + 1) (cap := cap1) (wr.heap.size + 1) hoo.out hne.out hata (Nat.le_succ _)); have hoi1 := keep hoa; have d2 : wa.cell? ⟨gk, n, none⟩ = some (.int .u8 ((k n).toNat : Int)) := (by rw [hb1.out.cell (p := ⟨gk, n, none⟩) hgk]; exact HK.out n hlt); clear hoa hga hata)
              | (at_builtin; refine wpList_append_lies _ rfl (.tmp 36) (.tmp 42) 22 rfl wk.heap.size 5 i0 _ 1 1 Tryd.underlying22 hi hz0 hz1 hz2 rfl (by omega) _ n _ rfl (hoo1.out.alloc _) ⟨wa.heap.size, 0, none⟩ 1 1 (bv [k n ^^^ 92]) rfl rfl (World.news_of_block (heap_alloc_new wa _)) (bv_one _) (by omega) (by unfold maxLen; omega) (by omega) (le_alloc hb1.out.size _) (wa.heap.size + 1) (alloc_size _ _) ?_; intro g2 cap2 wb hob hgb hatb _; have hoi2 := keep ((hoi1.out.alloc _).kept hgb (own_apart' hoi1.out hne1.out)); have hb2 := keep ((hb1.out.alloc hb1.out.size _).grown hgb (le_alloc hb1.out.size _) (fun j hj => (hoo1.out.lt j hj).1)); have hne2 := keep (lies_apart' (m := n + 1) (cap := cap2) (wa.heap.size + 1) hoi1.out hne1.out hatb (Nat.le_succ _)); have hoo2 := keep hob; clear hob hgb hatb))
            have ho6 : Hid (wb.ownsRow wk.heap.size 5 1 (.slice (some ⟨g1, 0, none⟩) (n + 1) cap1) (n + 1) (bv (upto k 54 (n + 1)))) := by rw [upto_succ, bv_append]; exact hoi2.out
            have ho5 : Hid (wb.ownsRow wk.heap.size 5 1 (.slice (some ⟨g2, 0, none⟩) (n + 1) cap2) (n + 1) (bv (upto k 92 (n + 1)))) := by rw [upto_succ, bv_append]; exact hoo2.out
            clear hoi2 hoo2 hoi1 hoo1 hoi hoo hb1 hne1 hne hb d1 d2
            go_wp2
            go_roundw
            case rel => first | exact ⟨n + 1, by omega, by go_num, ho6, ho5, hne2, hb2⟩ | ((repeat apply Exists.intro); exact ⟨⟨n + 1, by omega, by go_num, ho6, ho5, hne2, hb2⟩, rfl⟩)
            case measure => simp [intOf]; omega
          · have hn2 : n = 64 := by omega
            subst hn2
            have hbw := keep (hbk.out.trans (hb.out.mono hbk.out.size))
            go_wp2_with (at_builtin; refine wpList_append_src rfl (.tmp 44) (.tmp 45) 22 rfl wk.heap.size i0 _ Tryd.underlying22 hi hz0 hz1 hz2 rfl _ 64 (upto k 54 64) rfl hoi.out _ m2 c2 l rfl (HS2.out.below hbw.out) (by omega) hb.out.size ?_; intro v1 wa hoa hga; have hoo1 := keep (hoo.out.kept hga (own_apart hoo.out hne.out)); have hb1 := keep (hb.out.grown hga hb.out.size (fun j hj => (hoi.out.lt j hj).1)); obtain ⟨a1, c1, rfl, hs1, hc1⟩ := Src.of_own hoa; have HS1 := keep hs1; clear hoa hga hs1)
            refine (rsum_any a1 (64 + m2) c1 _ wa (by omega) HS1.out).mono ?_
            rintro e w3 ⟨rfl, hb3⟩
            have hoo3 := keep (own_below hoo1.out hb3)
            have hb3' := keep (hb1.out.trans (hb3.mono hb1.out.size))
            clear hb3 hoo1 HS1
            obtain ⟨hh, hhh⟩ : ∃ hh, sum (upto k 54 64 ++ l) = hh := ⟨_, rfl⟩
            rw [hhh]
            have hhl : hh.length = 32 := by rw [← hhh]; exact sum_length _
            have HMAC : Hid (mac key l = sum (upto k 92 64 ++ hh)) := by unfold mac; rw [HKK.out, ← hhh]; rfl
            clear hhh
            go_wp2_with (at_builtin; refine wpList_append_own_string_if (by rfl) (.tmp 47) (.tmp 49) 22 9 rfl wk.heap.size i0 Tryd.underlying22 Tryd.underlying9 hi hz0 hz1 hz2 _ 64 (upto k 92 64) hh 32 rfl hoo3.out rfl hhl (by omega) hb3'.out.size ?_; intro v5 w5 ho5 hg5; have hb5 := keep (hb3'.out.grown hg5 hb3'.out.size (fun j hj => (hoo3.out.lt j hj).1)); obtain ⟨a5, c5, rfl, hs5, hc5⟩ := Src.of_own ho5; have HS5 := keep hs5; clear ho5 hg5 hs5)
            have hbw5 := keep (hbk.out.trans (hb5.out.mono hbk.out.size))
            refine (rsum_any a5 (64 + 32) c5 _ w5 (by omega) HS5.out).mono ?_
            rintro e w6 ⟨rfl, hb6⟩
            clear HS5
            go_wp2
            go_ret
            exact ⟨by rw [HMAC.out]; rfl, hbw5.out.trans (hb6.mono hbw5.out.size)⟩
end Go.Proofs.YtjjpfckmbjgfbaaDoor
