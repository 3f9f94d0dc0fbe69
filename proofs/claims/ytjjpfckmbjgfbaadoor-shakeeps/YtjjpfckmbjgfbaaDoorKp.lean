/- The walk of the statement that what is handed in is as it was, and which keys are as good as others. -/
import Derived.Test.YtjjpfckmbjgfbaaDoorRe
import Derived.Test.YtjjpfckmbjgfbaaDoorC
namespace Go.Proofs.YtjjpfckmbjgfbaaDoor
open Go.RowKit

theorem fn_zeros' (K : List UInt8) (j i : Nat) : fn (K ++ List.replicate j 0) i = fn K i := by
  rcases Nat.lt_or_ge i K.length with h | h
  · exact fn_left _ _ _ h
  · rw [kb_zero K i h]
    unfold fn
    rw [List.getD_eq_getElem?_getD, List.getElem?_append_right h, List.getElem?_replicate]
    split <;> rfl
theorem zeros_succ' (K : List UInt8) (j : Nat) : K ++ List.replicate (j + 1) 0 = (K ++ List.replicate j 0) ++ [0] := by rw [List.replicate_succ', List.append_assoc]
theorem mac_same (key K l : List UInt8) (j : Nat) (h64 : (K ++ List.replicate j 0).length ≤ 64) (hk : kb key = fn K) : mac (K ++ List.replicate j 0) l = mac key l := by
  have e : kb (K ++ List.replicate j 0) = kb key := by
    rw [hk]
    funext i
    unfold kb
    rw [if_neg (by omega), fn_zeros']
  unfold mac
  rw [e]
theorem conv_src {w : World} {ao : Option Addr} {m c : Nat} {l : List UInt8} (h : Src w ao m c l) : (convert 22 9 (.slice ao m c)).run Tryd.prog w = .ok (.string ⟨l.toArray⟩) w := by
  cases ao with
  | none =>
    obtain ⟨rfl, rfl⟩ := h.nil rfl
    have hl : l = [] := List.length_eq_zero_iff.1 h.len
    subst hl
    exact run_convert_bytes_nil w 22 5 Tryd.underlying22 Tryd.underlying5 0 0 9 Tryd.underlying9
  | some ad =>
    rcases Nat.eq_zero_or_pos m with h0 | h0
    · subst h0
      have hl : l = [] := List.length_eq_zero_iff.1 h.len
      subst hl
      rw [run_convert_bytes_string w 22 9 5 _ 0 c Tryd.underlying22 Tryd.underlying5 Tryd.underlying9]
      exact run_bytesToString w ad 0 c [] (run_loadCells_list (P := Tryd.prog) w ad [] (fun j v hv => by simp at hv))
    · obtain ⟨b, off, hab, _, hby⟩ := h.form h0
      cases hab
      have := run_convert_bytes_arg (P := Tryd.prog) w 22 5 Tryd.underlying22 Tryd.underlying5 b off m c (l.map fun b => (b.toNat : Int)) (by simpa using h.len) (fun i hi => by
        rw [hby i hi]
        have : i < l.length := by rw [h.len]; exact hi
        simp [fn, List.getD, this]) 9 Tryd.underlying9
      rwa [strOfNums_bytes] at this
theorem Src.init {w : World} {ao : Option Addr} {m c : Nat} {l : List UInt8} {x : UInt8} (h : Src w ao (m + 1) c (l ++ [x])) (hl : l.length = m) : Src w ao m c l := by
  refine ⟨hl, by have := h.cap; omega, (fun e => by have := (h.nil e).1; omega), fun ad had j u hu => h.cells ad had j u ?_⟩
  rw [bv_append, List.getElem?_append_left]
  · exact hu
  · exact (List.getElem?_eq_some_iff.1 hu).1

set_option maxHeartbeats 1000000 in
set_option maxRecDepth 100000 in
theorem keeps_walk (ao : Option Addr) (m c : Nat) (key : List UInt8) (ao2 : Option Addr) (m2 c2 : Nat) (l : List UInt8) (w : World) (hm : m ≤ 140737488351232) (hc : c ≤ maxLen) (hm2 : m2 ≤ 140737488351232) (hT : Tab w) (hF : Fst w) (hs : Src w ao m c key) (hs2 : Src w ao2 m2 c2 l) :
    Calls Tryd.prog 6 #[.slice ao m c, .slice ao2 m2 c2] w fun e w' => e = .returned (.bool true) ∧ Below w.heap.size w w' := by
  obtain ⟨i0, hi, hz0, hz1, hz2⟩ := info_parts info5
  have hkey := hs.len
  have hll := hs2.len
  have HT := keep hT
  have HF := keep hF
  have HS := keep hs
  have HS2 := keep hs2
  clear hT hF hs hs2
  have hsh := slice_h
  go_enter Tryd.func6, Tryd.ntmps6
  go_wp2_with (first
    | (at_builtin; refine wpList_append_src rfl (.tmp 10) (.tmp 11) 22 rfl w.heap.size i0 _ Tryd.underlying22 hi hz0 hz1 hz2 rfl _ 0 [] rfl (World.ownsRow_made w #[] 0 (Nat.le_refl _) (by unfold maxLen; omega) rfl) _ m c key rfl (HS.out.below ((Below.refl _ _).alloc (Nat.le_refl _) _)) (by omega) (by simp) ?_; intro v1 w1 ho1 hg1; simp only [Nat.zero_add, List.nil_append] at ho1; have HO1 := keep ho1; have hb1 := keep (((Below.refl w.heap.size w).alloc (Nat.le_refl _) _).grown hg1 (by simp) (fun j hj => by cases hj; exact Nat.le_refl _)); clear ho1 hg1)
    | (at_builtin; refine wpList_append_lies _ rfl (.tmp 12) (.tmp 13) 22 rfl w.heap.size 5 i0 _ 1 1 Tryd.underlying22 hi hz0 hz1 hz2 rfl (by omega) _ m _ rfl (HO1.out.alloc _) ⟨w1.heap.size, 0, none⟩ 1 1 (bv [0]) rfl rfl (World.news_of_block (heap_alloc_new w1 _)) (bv_one _) (by omega) (by unfold maxLen; omega) (by omega) (le_alloc hb1.out.size _) (w1.heap.size + 1) (alloc_size _ _) ?_; intro gk ck w2 ho2 hg2 _ _; have hb2 := keep ((hb1.out.alloc hb1.out.size _).grown hg2 (le_alloc hb1.out.size _) (fun i hi => (HO1.out.lt i hi).1)); have hkm := ownsRow_cap ho2; have HK2 : Hid (Src w2 (some ⟨gk, 0, none⟩) (m + 1) ck (key ++ [0])) := (by rw [← bv_append] at ho2; exact Src.owns ho2); have hck := HK2.out.cap; have hkm' := keep hkm; clear ho2 hg2 hkm)
    | (at_builtin; refine wpList_append_src rfl (.tmp 18) (.tmp 19) 22 rfl w2.heap.size i0 _ Tryd.underlying22 hi hz0 hz1 hz2 rfl _ 0 [] rfl (World.ownsRow_made w2 #[] 0 (Nat.le_refl _) (by unfold maxLen; omega) rfl) _ m2 c2 l rfl ((HS2.out.below hb2.out).below ((Below.refl _ _).alloc (Nat.le_refl _) _)) (by omega) (by simp) ?_; intro v3 w3 ho3 hg3; simp only [Nat.zero_add, List.nil_append] at ho3; have HO3 := keep ho3; have hb3 := keep (((Below.refl w2.heap.size w2).alloc (Nat.le_refl _) _).grown hg3 (by simp) (fun j hj => by cases hj; exact Nat.le_refl _)); clear ho3 hg3)
    | (at_builtin; refine wpList_append_lies _ rfl (.tmp 20) (.tmp 21) 22 rfl w2.heap.size 5 i0 _ 1 1 Tryd.underlying22 hi hz0 hz1 hz2 rfl (by omega) _ m2 _ rfl (HO3.out.alloc _) ⟨w3.heap.size, 0, none⟩ 1 1 (bv [0]) rfl rfl (World.news_of_block (heap_alloc_new w3 _)) (bv_one _) (by omega) (by unfold maxLen; omega) (by omega) (le_alloc hb3.out.size _) (w3.heap.size + 1) (alloc_size _ _) ?_; intro gc cc w4 ho4 hg4 _ _; have hb4 := keep ((hb3.out.alloc hb3.out.size _).grown hg4 (le_alloc hb3.out.size _) (fun i hi => (HO3.out.lt i hi).1)); have hcm := ownsRow_cap ho4; have HC4 : Hid (Src w4 (some ⟨gc, 0, none⟩) (m2 + 1) cc (l ++ [0])) := (by rw [← bv_append] at ho4; exact Src.owns ho4); have hcc := HC4.out.cap; have hcm' := keep hcm; clear ho4 hg4 hcm))
  have hbw4 := keep (hb2.out.trans (hb4.out.mono hb2.out.size))
  have HK4 := keep (HK2.out.below hb4.out)
  clear HO1 HO3 hb1 hb2 hb3 hb4 HK2
  refine (mac_any (some ⟨gk, 0, none⟩) m ck key (some ⟨gc, 0, none⟩) m2 cc l w4 (by omega) hkm'.out hm2 (HT.out.below hbw4.out) (HF.out.below hbw4.out) (HK4.out.init hkey) (HC4.out.init hll)).mono ?_
  rintro e w5 ⟨rfl, hb5⟩
  have hbw5 := keep (hbw4.out.trans (hb5.mono hbw4.out.size))
  have HK5 := keep (HK4.out.below hb5)
  have HC5 := keep (HC4.out.below hb5)
  have HS5 := keep (HS.out.below hbw5.out)
  have HS25 := keep (HS2.out.below hbw5.out)
  clear hb5 HK4 HC4 hbw4
  have v1 := conv_src (HK5.out.init hkey)
  have v2 := conv_src HS5.out
  have v3 := conv_src (HC5.out.init hll)
  have v4 := conv_src HS25.out
  have s1 : ∀ u : World, (Instr.slice 22 (.slice (some ⟨gk, 0, none⟩) m ck) none (some (.int .i64 ((m : Int) + 1))) none).run Tryd.prog u = .ok (.slice (some ⟨gk, 0, none⟩) (m + 1) ck) u := fun u => slice_h _ m ck (m + 1) hck u
  have s2 : ∀ u : World, (Instr.slice 22 (.slice (some ⟨gc, 0, none⟩) m2 cc) none (some (.int .i64 ((m2 : Int) + 1))) none).run Tryd.prog u = .ok (.slice (some ⟨gc, 0, none⟩) (m2 + 1) cc) u := fun u => slice_h _ m2 cc (m2 + 1) hcc u
  have d1 : w5.cell? ⟨gk, m, none⟩ = some (.int .u8 0) := by
    obtain ⟨b0, off0, hab, _, hby⟩ := HK5.out.form (by omega)
    cases hab
    have := hby m (by omega)
    rw [Nat.zero_add] at this
    rw [this]
    have e : fn (key ++ [0]) m = 0 := by have := fn_right key [0] 0; rw [hkey] at this; exact this
    rw [e]; rfl
  have d2 : w5.cell? ⟨gc, m2, none⟩ = some (.int .u8 0) := by
    obtain ⟨b0, off0, hab, _, hby⟩ := HC5.out.form (by omega)
    cases hab
    have := hby m2 (by omega)
    rw [Nat.zero_add] at this
    rw [this]
    have e : fn (l ++ [0]) m2 = 0 := by have := fn_right l [0] 0; rw [hll] at this; exact this
    rw [e]; rfl
  obtain ⟨mm, hmm⟩ : ∃ mm, mac key l = mm := ⟨_, rfl⟩
  rw [hmm]
  have hml : mm.length = 32 := by rw [← hmm]; exact sum_length _
  have hbs : (⟨mm.toArray⟩ : ByteArray).size = 32 := hml
  have HMM := keep hmm
  clear hmm hsh
  have i1 : (0 : Int) ≤ (m : Int) := by omega
  have i2 : (m : Int) < (m : Int) + 1 := by omega
  have i3 : (0 : Int) ≤ (m2 : Int) := by omega
  have i4 : (m2 : Int) < (m2 : Int) + 1 := by omega
  by_cases h64 : 64 < m
  · have h64i : (64 : Int) < (m : Int) := by omega
    obtain ⟨sm, hsm⟩ : ∃ sm, sum key = sm := ⟨_, rfl⟩
    have hsl : sm.length = 32 := by rw [← hsm]; exact sum_length key
    have hcv := conv_str sm 32 hsl
    have hkf : Hid (kb key = fn sm) := by
      have e : kb key = fn sm := by funext j; unfold kb; rw [if_pos (by omega), hsm]
      exact e
    have HSM := keep hsm
    clear hsm
    go_wp2_with (at_builtin; refine wpList_append_src rfl (.tmp 65) (.tmp 66) 22 rfl w5.heap.size i0 _ Tryd.underlying22 hi hz0 hz1 hz2 rfl _ 0 [] rfl (World.ownsRow_made w5 #[] 0 (Nat.le_refl _) (by unfold maxLen; omega) rfl) _ m c key rfl (HS5.out.below ((Below.refl _ _).alloc (Nat.le_refl _) _)) (by omega) (by simp) ?_; intro v6 w6 ho6 hg6; simp only [Nat.zero_add, List.nil_append] at ho6; obtain ⟨a6, c6, rfl, _, _⟩ := Src.of_own ho6; have hb6 := keep (((Below.refl w5.heap.size w5).alloc (Nat.le_refl _) _).grown hg6 (by simp) (fun j hj => by cases hj; exact Nat.le_refl _)); clear ho6 hg6)
    have hbw6 := keep (hbw5.out.trans (hb6.out.mono hbw5.out.size))
    refine (sum_any ao m c key w6 (by omega) hc (HT.out.below hbw6.out) (HF.out.below hbw6.out) (HS.out.below hbw6.out)).mono ?_
    rintro e w7 ⟨rfl, hb7⟩
    rw [HSM.out]
    have hbw7 := keep (hbw6.out.trans (hb7.mono hbw6.out.size))
    have hbq2 := keep (hbw7.out.trans ((below_bytesWorld w7 ⟨sm.toArray⟩).mono hbw7.out.size))
    have HW := keep (Wr.converted w7 sm 32 hsl (by unfold maxLen; omega))
    have hwq : w.heap.size ≤ w7.heap.size := hbw7.out.size
    have hw2q : w7.heap.size ≤ (Lib.bytesWorld w7 5 ⟨sm.toArray⟩).heap.size := (below_bytesWorld w7 _).size
    clear hb7 hb6 hbw6 hbw7 v1 v2 v3 v4 s1 s2 d1 d2 HK5 HC5 HS5 HS25
    go_wp2
    generalize Lib.bytesWorld w7 5 ⟨sm.toArray⟩ = wq at hbq2 HW hw2q ⊢
    generalize w7.heap.size = gq at HW hwq hw2q ⊢
    generalize grownCap w7 32 0 5 = cq at HW ⊢
    go_loopw [9] (fun v wr => ∃ j g cp : Nat, 32 + j ≤ 64 ∧ v = .slice (some ⟨g, 0, none⟩) (32 + j) cp ∧ Hid (Wr wr gq g (32 + j) cp (sm ++ List.replicate j 0)) ∧ Hid (Below gq wq wr)) (fun v _ => 128 - (match v with | .slice _ k _ => k | _ => 0))
    case atStart => exact ⟨0, gq, cq, by omega, rfl, by rw [List.replicate_zero, List.append_nil]; exact HW, Below.refl _ _⟩
    case round =>
      clear HW
      obtain ⟨j, gk9, ck9, hj, rfl, HW, hbj⟩ := hrel
      by_cases hlt : 32 + j < 64
      · have hlti : (32 : Int) + (j : Int) < 64 := by omega
        go_wp2_with (at_builtin; refine wpList_append_wr rfl _ _ 22 rfl i0 _ Tryd.underlying22 hi hz0 hz1 hz2 rfl gq gk9 (32 + j) ck9 _ 0 _ rfl (HW.out.alloc _) rfl (Src.go (l := [0]) Tryd.underlying22 (Src.block (heap_alloc_new wr _) rfl)) (by omega) (le_alloc (Nat.le_trans hw2q hbj.out.size) _) ?_; intro g3 cp3 w3 hw3 hb3)
        have HW3 : Hid (Wr w3 gq g3 (32 + (j + 1)) cp3 (sm ++ List.replicate (j + 1) 0)) := by rw [zeros_succ']; exact hw3
        have hb4 : Hid (Below gq wq w3) := (hbj.out.alloc (Nat.le_trans hw2q hbj.out.size) _).trans hb3
        clear hw3 hb3 HW hbj
        go_wp2
        go_roundw
        case rel => exact ⟨j + 1, g3, cp3, by omega, rfl, HW3, hb4⟩
        case measure => simp; omega
      · have hj2 : j = 32 := by omega
        subst hj2
        have hbz : Hid (Below w.heap.size w wr) := hbq2.out.trans (hbj.out.mono hwq)
        have HSO := keep HW.out.src
        have hcap := keep HW.out.max
        clear HW hbj hbq2 hlt
        have hmac : Hid (mac (sm ++ List.replicate 32 0) l = mm) := by rw [mac_same key sm l 32 (by simp; omega) hkf.out, HMM.out]; rfl
        go_wp2_with fail
        refine (mac_any (some ⟨gk9, 0, none⟩) (32 + 32) ck9 (sm ++ List.replicate 32 0) ao2 m2 c2 l wr (by omega) hcap.out hm2 (HT.out.below hbz.out) (HF.out.below hbz.out) HSO.out (HS2.out.below hbz.out)).mono ?_
        rintro e w9 ⟨rfl, hb9⟩
        rw [hmac.out]
        clear hmac HSO
        go_wp2
        go_ret
        exact ⟨by simp, hbz.out.trans (hb9.mono hbz.out.size)⟩
  · have h64i : ¬ (64 : Int) < (m : Int) := by omega
    have hkf : Hid (kb key = fn key) := by
      have e : kb key = fn key := by funext j; unfold kb; rw [if_neg (by omega)]
      exact e
    go_wp2_with (at_builtin; refine wpList_append_src rfl (.tmp 65) (.tmp 66) 22 rfl w5.heap.size i0 _ Tryd.underlying22 hi hz0 hz1 hz2 rfl _ 0 [] rfl (World.ownsRow_made w5 #[] 0 (Nat.le_refl _) (by unfold maxLen; omega) rfl) _ m c key rfl (HS5.out.below ((Below.refl _ _).alloc (Nat.le_refl _) _)) (by omega) (by simp) ?_; intro v6 w6 ho6 hg6; simp only [Nat.zero_add, List.nil_append] at ho6; have HO6 := keep ho6; obtain ⟨a6, c6, rfl, _, _⟩ := Src.of_own ho6; have hb6 := keep (((Below.refl w5.heap.size w5).alloc (Nat.le_refl _) _).grown hg6 (by simp) (fun j hj => by cases hj; exact Nat.le_refl _)); clear ho6 hg6)
    have hbw6 := keep (hbw5.out.trans (hb6.out.mono hbw5.out.size))
    have hw5 : w.heap.size ≤ w5.heap.size := hbw5.out.size
    clear v1 v2 v3 v4 s1 s2 d1 d2 HK5 HC5 HS5 HS25
    go_loopw [9] (fun v wr => ∃ (j : Nat) (a : Option Addr) (cp : Nat), m + j ≤ 64 ∧ v = .slice a (m + j) cp ∧ Hid (wr.ownsRow w5.heap.size 5 1 (.slice a (m + j) cp) (m + j) (bv (key ++ List.replicate j 0))) ∧ Hid (Below w5.heap.size w5 wr)) (fun v _ => 128 - (match v with | .slice _ k _ => k | _ => 0))
    case atStart => exact ⟨0, a6, c6, by omega, rfl, by rw [List.replicate_zero, List.append_nil]; exact HO6, hb6⟩
    case round =>
      clear HO6 hb6 hbw6
      obtain ⟨j, aj, cj, hj, rfl, HO, hbj⟩ := hrel
      by_cases hlt : m + j < 64
      · have hlti : (m : Int) + (j : Int) < 64 := by omega
        go_wp2_with (at_builtin; refine wpList_append_lies _ rfl _ _ 22 rfl w5.heap.size 5 i0 _ 1 1 Tryd.underlying22 hi hz0 hz1 hz2 rfl (by omega) _ (m + j) _ rfl (HO.out.alloc _) ⟨wr.heap.size, 0, none⟩ 1 1 (bv [0]) rfl rfl (World.news_of_block (heap_alloc_new wr _)) (bv_one _) (by omega) (by unfold maxLen; omega) (by omega) (le_alloc hbj.out.size _) (wr.heap.size + 1) (alloc_size _ _) ?_; intro g3 cp3 w3 ho3 hg3 _ _)
        have HO3 : Hid (w3.ownsRow w5.heap.size 5 1 (.slice (some ⟨g3, 0, none⟩) (m + (j + 1)) cp3) (m + (j + 1)) (bv (key ++ List.replicate (j + 1) 0))) := by rw [zeros_succ', bv_append]; exact ho3
        have hb4 : Hid (Below w5.heap.size w5 w3) := (hbj.out.alloc hbj.out.size _).grown hg3 (le_alloc hbj.out.size _) (fun i hi => (HO.out.lt i hi).1)
        clear ho3 hg3 HO hbj
        go_wp2
        go_roundw
        case rel => exact ⟨j + 1, some ⟨g3, 0, none⟩, cp3, by omega, rfl, HO3, hb4⟩
        case measure => simp; omega
      · have hlti : ¬ (m : Int) + (j : Int) < 64 := by omega
        have hbz : Hid (Below w.heap.size w wr) := hbw5.out.trans (hbj.out.mono hw5)
        obtain ⟨a9, c9, ha9, hs9, hc9⟩ := Src.of_own HO.out
        cases ha9
        have HSO := keep hs9
        have hcap := keep hc9
        clear HO hbj hs9 hc9
        have hmac : Hid (mac (key ++ List.replicate j 0) l = mm) := by rw [mac_same key key l j (by simp; omega) hkf.out, HMM.out]; rfl
        go_wp2_with fail
        refine (mac_any aj (m + j) cj (key ++ List.replicate j 0) ao2 m2 c2 l wr (by omega) hcap.out hm2 (HT.out.below hbz.out) (HF.out.below hbz.out) HSO.out (HS2.out.below hbz.out)).mono ?_
        rintro e w9 ⟨rfl, hb9⟩
        rw [hmac.out]
        clear hmac HSO
        go_wp2
        go_ret
        exact ⟨by simp, hbz.out.trans (hb9.mono hbz.out.size)⟩
end Go.Proofs.YtjjpfckmbjgfbaaDoor
