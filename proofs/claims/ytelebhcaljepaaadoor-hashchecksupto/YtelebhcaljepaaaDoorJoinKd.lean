/- The walks of the document's whole, Sides, Climb. -/
/- The walk of the document's Climb. -/
/- The walk of the document's Root. -/
/- The walk of the document's Path. -/
/- The walks of the document's sub and Proof. -/
import Derived.Test.YtelebhcaljepaaaDoorKa
import Derived.Test.YtelebhcaljepaaaDoorKt
namespace Go.Proofs.YtelebhcaljepaaaDoor
open Go.RowKit

set_option maxHeartbeats 1000000 in
set_option maxRecDepth 100000 in
theorem rwhole_any (ao : Option Addr) (n c : Nat) (es : List (List UInt8)) (w : World) (hs : RSrc strKind w ao n c es) (hn : n ≤ 4611686018427387904) :
    Calls Tryd.prog 39 #[.slice ao n c] w fun e w' => e = .returned (.bool (wholeL es)) ∧ Below w.heap.size w w' := by
  have HS := keep hs
  have HN := keep hs.len
  clear hs
  go_enter Tryd.func39, Tryd.ntmps39
  go_wp2
  go_loopw [3] (fun i wr => ∃ k : Nat, k ≤ n ∧ i = .int .i64 (k : Int) ∧ Hid (Below w.heap.size w wr ∧ wholeL (es.take k) = true)) (fun i _ => n - (intOf i).toNat)
  case atStart => exact ⟨0, Nat.zero_le _, rfl, Below.refl _ _, rfl⟩
  case round =>
    obtain ⟨k, hk, rfl, hI⟩ := hrel
    by_cases hkn : k < n
    · obtain ⟨b, off, rfl, _, hcell⟩ := strs_at HS.out (by omega)
      obtain ⟨s, hsk⟩ : ∃ s, es[k]? = some s := ⟨es[k]'(by rw [HN.out]; exact hkn), List.getElem?_eq_getElem _⟩
      have ck : wr.cell? ⟨b, off + k, none⟩ = some (.string ⟨s.toArray⟩) := below_cell hI.out.1 (hcell k s hsk)
      have k0 : (0 : Int) ≤ (k : Int) := by omega
      have k1 : (k : Int) < (n : Int) := by omega
      have MORE := keep (wholeL_more hsk)
      have NO := keep (fun h => wholeL_no hsk h)
      clear hcell hsk
      by_cases h32 : s.length = 32
      · have h3 : (s.length : Int) = 32 := by omega
        rw [decide_eq_true h32, Bool.and_true] at MORE
        clear h32
        go_wp2
        go_roundw
        case rel => exact ⟨k + 1, by omega, by go_num, hI.out.1, by rw [MORE.out]; exact hI.out.2⟩
        case measure => simp [intOf]; omega
      · have h3 : ¬ (s.length : Int) = 32 := by omega
        have h4 := keep (NO.out h32)
        clear h32
        go_wp2
        go_ret
        rw [h4.out]
        exact ⟨rfl, hI.out.1⟩
    · have k1 : ¬ (k : Int) < (n : Int) := by omega
      have h4 : Hid (wholeL es = true) := by
        have := hI.out.2
        rwa [List.take_of_length_le (by rw [HN.out]; omega)] at this
      go_wp2
      go_ret
      rw [h4.out]
      exact ⟨rfl, hI.out.1⟩
set_option maxHeartbeats 2000000 in
set_option maxRecDepth 100000 in
theorem rsides_any : ∀ (n i : Nat), i < n → n ≤ 1099511627776 → ∀ (w : World), Calls Tryd.prog 38 #[.int .i64 (i : Int), .int .i64 (n : Int)] w (SideR w (Mt.sides i n)) := by
  intro n
  induction n using Nat.strongRecOn with
  | _ n ih =>
    intro i hin hn w
    obtain ⟨i0, hi0, hz0, hz1, hz2⟩ := info_partsS infoB
    have IH := keep ih
    clear ih
    by_cases h1 : n ≤ 1
    · have hR : Mt.sides i n = [] := Mt.sides_one h1 i
      have n1 : (n : Int) ≤ 1 := by omega
      rw [hR]
      clear hR h1
      go_enter Tryd.func38, Tryd.ntmps38
      go_wp2
      go_ret
      exact ⟨_, rfl, World.ownsRow_nil _ _ _ _, Below.refl _ _⟩
    have h2 : 2 ≤ n := by omega
    have n1 : ¬ (n : Int) ≤ 1 := by omega
    have hlt := Mt.cut_lt h2
    have hpo := Mt.cut_pos n
    have CU := keep (rcut_any n w h2 (by omega))
    have LEFT : Hid (i < Mt.cut n → Mt.sides i n = Mt.sides i (Mt.cut n) ++ [true]) := fun h => Mt.sides_left h2 h
    have RIGHT : Hid (¬ i < Mt.cut n → Mt.sides i n = Mt.sides (i - Mt.cut n) (n - Mt.cut n) ++ [false]) := fun h => Mt.sides_right h2 h
    obtain ⟨k, hk⟩ : ∃ k, Mt.cut n = k := ⟨_, rfl⟩
    rw [hk] at hlt hpo CU LEFT RIGHT
    clear h1
    by_cases hik : i < k
    · have hp := LEFT.out hik
      rw [hp]
      have PL : Hid ((Mt.sides i k).length ≤ 40) := Nat.le_trans (Mt.sides_len k i (by omega)) (Mt.lv_le (by omega))
      have ik : (i : Int) < (k : Int) := by omega
      clear hp LEFT RIGHT hk
      have PA : Hid (∀ w', Calls Tryd.prog 38 #[.int .i64 (i : Int), .int .i64 (k : Int)] w' (SideR w' (Mt.sides i k))) := fun w' => IH.out k (by omega) i (by omega) (by omega) w'
      obtain ⟨P, hP⟩ : ∃ P, Mt.sides i k = P := ⟨_, rfl⟩
      rw [hP] at PL PA ⊢
      clear hP
      obtain ⟨M, hM⟩ : ∃ M, P.length = M := ⟨_, rfl⟩
      have HM := keep hM
      rw [hM] at PL
      have hpl := PL.out
      clear hM
      go_enter Tryd.func38, Tryd.ntmps38
      go_wp2_with fail
      refine CU.out.mono ?_
      rintro e w1 ⟨rfl, hb1⟩
      have b1 := keep hb1
      clear hb1 CU
      go_wp2_with fail
      refine (PA.out w1).mono ?_
      rintro e w3 ⟨v, rfl, ho, hb2⟩
      have b3 := keep (b1.out.trans (hb2.mono b1.out.size))
      have O3 := keep (own_low ho b1.out.size)
      obtain ⟨vp, vc, hv⟩ := own_is ho
      subst hv
      rw [HM.out] at O3 ⊢
      clear ho hb2
      have rc := keep (rec_cells (k := boolKind) w3 4 true)
      have b4 := keep (b3.out.alloc b3.out.size (.cells #[.bool true] 4))
      have O4 : Hid ((w3.alloc (.cells #[.bool true] 4)).ownsRow w.heap.size 4 1 (.slice vp M vc) M (rv boolKind P)) := own_next O3.out ((Below.refl _ _).alloc (Nat.le_refl _) _)
      go_wp2_with (at_builtin; go_loud (refine wpList_append_rec boolKind_ok rfl _ _ 57 4 rfl w.heap.size i0 _ 1 Tryd.underlying57 hi0 hz0 hz1 hz2 rfl (.slice vp M vc) M P rfl O4.out _ 1 true rfl rc.out (by unfold maxLen; omega) (by omega) b4.out.size ?_); intro v7 w7 ho7 hg7; have O7 := keep ho7; have b7 := keep (b4.out.grown hg7 b4.out.size (fun j hj => (O4.out.lt j hj).1)); clear ho7 hg7)
      go_ret
      exact ⟨v7, rfl, by rw [List.length_append, HM.out]; exact O7.out, b7.out⟩
    · have hp := RIGHT.out hik
      rw [hp]
      have PL : Hid ((Mt.sides (i - k) (n - k)).length ≤ 40) := Nat.le_trans (Mt.sides_len (n - k) (i - k) (by omega)) (Mt.lv_le (by omega))
      have ik : ¬ (i : Int) < (k : Int) := by omega
      have e3 : (i : Int) - (k : Int) = ((i - k : Nat) : Int) := by omega
      have e4 : (n : Int) - (k : Int) = ((n - k : Nat) : Int) := by omega
      clear hp LEFT RIGHT hk
      have PA : Hid (∀ w', Calls Tryd.prog 38 #[.int .i64 ((i - k : Nat) : Int), .int .i64 ((n - k : Nat) : Int)] w' (SideR w' (Mt.sides (i - k) (n - k)))) := fun w' => IH.out (n - k) (by omega) (i - k) (by omega) (by omega) w'
      obtain ⟨P, hP⟩ : ∃ P, Mt.sides (i - k) (n - k) = P := ⟨_, rfl⟩
      rw [hP] at PL PA ⊢
      clear hP
      obtain ⟨M, hM⟩ : ∃ M, P.length = M := ⟨_, rfl⟩
      have HM := keep hM
      rw [hM] at PL
      have hpl := PL.out
      clear hM
      go_enter Tryd.func38, Tryd.ntmps38
      go_wp2_with fail
      refine CU.out.mono ?_
      rintro e w1 ⟨rfl, hb1⟩
      have b1 := keep hb1
      clear hb1 CU
      go_wp2_with fail
      refine (PA.out w1).mono ?_
      rintro e w3 ⟨v, rfl, ho, hb2⟩
      have b3 := keep (b1.out.trans (hb2.mono b1.out.size))
      have O3 := keep (own_low ho b1.out.size)
      obtain ⟨vp, vc, hv⟩ := own_is ho
      subst hv
      rw [HM.out] at O3 ⊢
      clear ho hb2
      have rc := keep (rec_cells (k := boolKind) w3 4 false)
      have b4 := keep (b3.out.alloc b3.out.size (.cells #[.bool false] 4))
      have O4 : Hid ((w3.alloc (.cells #[.bool false] 4)).ownsRow w.heap.size 4 1 (.slice vp M vc) M (rv boolKind P)) := own_next O3.out ((Below.refl _ _).alloc (Nat.le_refl _) _)
      go_wp2_with (at_builtin; go_loud (refine wpList_append_rec boolKind_ok rfl _ _ 57 4 rfl w.heap.size i0 _ 1 Tryd.underlying57 hi0 hz0 hz1 hz2 rfl (.slice vp M vc) M P rfl O4.out _ 1 false rfl rc.out (by unfold maxLen; omega) (by omega) b4.out.size ?_); intro v7 w7 ho7 hg7; have O7 := keep ho7; have b7 := keep (b4.out.grown hg7 b4.out.size (fun j hj => (O4.out.lt j hj).1)); clear ho7 hg7)
      go_ret
      exact ⟨v7, rfl, by rw [List.length_append, HM.out]; exact O7.out, b7.out⟩
end Go.Proofs.YtelebhcaljepaaaDoor
namespace Go.Proofs.YtelebhcaljepaaaDoor
open Go.RowKit

set_option maxHeartbeats 2000000 in
set_option maxRecDepth 100000 in
theorem rclimb_any (x : List UInt8) (n : Nat) (sp : Option Addr) (sc : Nat) (ss : List Bool) (pp : Option Addr) (pc : Nat) (ps : List (List UInt8)) (w : World) (hs : RSrc boolKind w sp n sc ss) (hp : RSrc strKind w pp n pc ps) (hn : n ≤ 1000) (hx : x.length ≤ 1099511627776) (hl : ∀ e ∈ ps, e.length ≤ 1099511627776) :
    Calls Tryd.prog 40 #[.string ⟨x.toArray⟩, .slice sp n sc, .slice pp n pc] w (RowR w (Mt.climb nodeL x ss ps)) := by
  obtain ⟨i0, hi0, hz0, hz1, hz2⟩ := info_partsS infoS
  have HS := keep hs
  have HP := keep hp
  have HSL := keep hs.len
  have HPL := keep hp.len
  have HL := keep hl
  have HX := keep hx
  have O0 : Hid ((w.alloc (.cells #[.string ⟨x.toArray⟩] 9)).ownsRow w.heap.size 9 1 (.slice (some ⟨w.heap.size, 0, none⟩) 1 1) 1 [.string ⟨x.toArray⟩]) := own_one (Nat.le_refl _)
  have b0 : Hid (Below w.heap.size w (w.alloc (.cells #[.string ⟨x.toArray⟩] 9))) := (Below.refl _ _).alloc (Nat.le_refl _) _
  clear hs hp hl hx
  go_enter Tryd.func40, Tryd.ntmps40
  go_wp2
  go_loopw [7, 8] (fun v i wr => ∃ k : Nat, k ≤ n ∧ i = .int .i64 (k : Int) ∧ Hid (wr.ownsRow w.heap.size 9 1 v (k + 1) (rv strKind (Mt.climb nodeL x (ss.take k) (ps.take k))) ∧ Below w.heap.size w wr)) (fun _ i _ => n - (intOf i).toNat)
  case atStart => exact ⟨0, Nat.zero_le _, rfl, by exact O0.out, b0.out⟩
  case round =>
    clear O0 b0
    obtain ⟨k, hk, rfl, hI⟩ := hrel
    obtain ⟨vp, vc, hv⟩ := own_is hI.out.1
    subst hv
    by_cases hkn : k < n
    · obtain ⟨q, hq⟩ : ∃ q, ps[k]? = some q := ⟨ps[k]'(by rw [HPL.out]; exact hkn), List.getElem?_eq_getElem _⟩
      obtain ⟨sb, hsb⟩ : ∃ sb, ss[k]? = some sb := ⟨ss[k]'(by rw [HSL.out]; exact hkn), List.getElem?_eq_getElem _⟩
      obtain ⟨b, off, rfl, _, hc1⟩ := strs_at HP.out (by omega)
      obtain ⟨b2, off2, rfl, _, hc2⟩ := bools_at HS.out (by omega)
      have cq : wr.cell? ⟨b, off + k, none⟩ = some (.string ⟨q.toArray⟩) := below_cell hI.out.2 (hc1 k q hq)
      have cs : wr.cell? ⟨b2, off2 + k, none⟩ = some (.bool sb) := below_cell hI.out.2 (hc2 k sb hsb)
      have hl1 : (ss.take k).length = (ps.take k).length := by rw [List.length_take, List.length_take, HSL.out, HPL.out]
      have hl2 : (ss.take k).length = k := by rw [List.length_take, HSL.out]; omega
      have hcl := Mt.climb_at nodeL x (ss.take k) (ps.take k) hl1 k (by omega)
      rw [List.take_take, List.take_take, Nat.min_self] at hcl
      have NXT : Hid (Mt.climb nodeL x (ss.take (k + 1)) (ps.take (k + 1)) = Mt.climb nodeL x (ss.take k) (ps.take k) ++ [Mt.up nodeL (Mt.top nodeL x (ss.take k) (ps.take k)) sb q]) := by show _ = _; rw [take_snoc hsb, take_snoc hq]; exact climb_snoc nodeL x _ _ sb q hl1
      have TL := top_len HX.out (ss.take k) (ps.take k)
      have QL := HL.out q (List.mem_of_getElem? hq)
      obtain ⟨X, hX⟩ : ∃ X, Mt.top nodeL x (ss.take k) (ps.take k) = X := ⟨_, rfl⟩
      rw [hX] at hcl NXT TL
      obtain ⟨C, hC⟩ : ∃ C, Mt.climb nodeL x (ss.take k) (ps.take k) = C := ⟨_, rfl⟩
      rw [hC] at hcl NXT hI
      obtain ⟨ap, ac, hv, hR, _⟩ := RSrc.own strKind_ok hI.out.1 (fun _ _ => trivial)
      obtain ⟨e1, e2, e3⟩ := Value.slice.inj hv
      clear e2 hv
      subst e1
      subst e3
      obtain ⟨b3, off3, hb3, _, hc3⟩ := strs_at hR (by omega)
      subst hb3
      have cx : wr.cell? ⟨b3, off3 + k, none⟩ = some (.string ⟨X.toArray⟩) := hc3 k X hcl
      have O1 := keep hI.out.1
      have B1 := keep hI.out.2
      clear hc1 hc2 hc3 hR hX hC hl1 hl2 hcl hq hsb hI
      have k0 : (0 : Int) ≤ (k : Int) := by omega
      have k1 : (k : Int) < (n : Int) := by omega
      have k2 : (k : Int) < ((k + 1 : Nat) : Int) := by omega
      cases sb with
      | false =>
        have ND := keep (rnode_any q X wr (by omega))
        obtain ⟨Y, hY⟩ : ∃ Y, nodeL q X = Y := ⟨_, rfl⟩
        have NX2 : Hid (Mt.climb nodeL x (ss.take (k + 1)) (ps.take (k + 1)) = C ++ [Y]) := by rw [NXT.out, ← hY]; rfl
        rw [hY] at ND
        clear hY NXT
        go_wp2_with fail
        refine ND.out.mono ?_
        rintro e w2 ⟨rfl, hb2⟩
        have b3w := keep (B1.out.trans (hb2.mono B1.out.size))
        have O3 := keep (own_next O1.out hb2)
        clear hb2 ND cq cs cx
        have rc := keep (rec_cells (k := strKind) w2 9 Y)
        have b4 := keep (b3w.out.alloc b3w.out.size (.cells #[.string ⟨Y.toArray⟩] 9))
        have O4 : Hid ((w2.alloc (.cells #[.string ⟨Y.toArray⟩] 9)).ownsRow w.heap.size 9 1 (.slice (some ⟨b3, off3, none⟩) (k + 1) vc) (k + 1) (rv strKind C)) := own_next O3.out ((Below.refl _ _).alloc (Nat.le_refl _) _)
        go_wp2_with (at_builtin; go_loud (refine wpList_append_rec strKind_ok rfl _ _ 22 9 rfl w.heap.size i0 _ 16 Tryd.underlying22 hi0 hz0 hz1 hz2 rfl (.slice (some ⟨b3, off3, none⟩) (k + 1) vc) (k + 1) C rfl O4.out _ 1 Y rfl rc.out (by unfold maxLen; omega) (by omega) b4.out.size ?_); intro v7 w7 ho7 hg7; have O7 := keep ho7; have b7 := keep (b4.out.grown hg7 b4.out.size (fun j hj => (O4.out.lt j hj).1)); clear ho7 hg7)
        go_roundw
        case rel => exact ⟨k + 1, by omega, by go_num, by rw [NX2.out]; exact O7.out, b7.out⟩
        case measure => simp [intOf]; omega
      | true =>
        have ND := keep (rnode_any X q wr (by omega))
        obtain ⟨Y, hY⟩ : ∃ Y, nodeL X q = Y := ⟨_, rfl⟩
        have NX2 : Hid (Mt.climb nodeL x (ss.take (k + 1)) (ps.take (k + 1)) = C ++ [Y]) := by rw [NXT.out, ← hY]; rfl
        rw [hY] at ND
        clear hY NXT
        go_wp2_with fail
        refine ND.out.mono ?_
        rintro e w2 ⟨rfl, hb2⟩
        have b3w := keep (B1.out.trans (hb2.mono B1.out.size))
        have O3 := keep (own_next O1.out hb2)
        clear hb2 ND cq cs cx
        have rc := keep (rec_cells (k := strKind) w2 9 Y)
        have b4 := keep (b3w.out.alloc b3w.out.size (.cells #[.string ⟨Y.toArray⟩] 9))
        have O4 : Hid ((w2.alloc (.cells #[.string ⟨Y.toArray⟩] 9)).ownsRow w.heap.size 9 1 (.slice (some ⟨b3, off3, none⟩) (k + 1) vc) (k + 1) (rv strKind C)) := own_next O3.out ((Below.refl _ _).alloc (Nat.le_refl _) _)
        go_wp2_with (at_builtin; go_loud (refine wpList_append_rec strKind_ok rfl _ _ 22 9 rfl w.heap.size i0 _ 16 Tryd.underlying22 hi0 hz0 hz1 hz2 rfl (.slice (some ⟨b3, off3, none⟩) (k + 1) vc) (k + 1) C rfl O4.out _ 1 Y rfl rc.out (by unfold maxLen; omega) (by omega) b4.out.size ?_); intro v7 w7 ho7 hg7; have O7 := keep ho7; have b7 := keep (b4.out.grown hg7 b4.out.size (fun j hj => (O4.out.lt j hj).1)); clear ho7 hg7)
        go_roundw
        case rel => exact ⟨k + 1, by omega, by go_num, by rw [NX2.out]; exact O7.out, b7.out⟩
        case measure => simp [intOf]; omega
    · have k1 : ¬ (k : Int) < (n : Int) := by omega
      obtain rfl : k = n := by omega
      have O1 := keep hI.out.1
      have B1 := keep hI.out.2
      rw [List.take_of_length_le (by rw [HSL.out]; exact Nat.le_refl _), List.take_of_length_le (by rw [HPL.out]; exact Nat.le_refl _)] at O1
      have CL : Hid ((Mt.climb nodeL x ss ps).length = k + 1) := by show _ = _; rw [Mt.climb_len nodeL x ss ps (by rw [HSL.out, HPL.out]), HSL.out]
      clear hI
      go_wp2
      go_ret
      exact ⟨_, rfl, by rw [CL.out]; exact O1.out, B1.out⟩
end Go.Proofs.YtelebhcaljepaaaDoor
namespace Go.Proofs.YtelebhcaljepaaaDoor
open Go.RowKit

set_option maxHeartbeats 2000000 in
set_option maxRecDepth 100000 in
theorem rroot_any : ∀ (n : Nat) (es : List (List UInt8)), es.length = n → ∀ (ao : Option Addr) (c : Nat) (w : World), RSrc strKind w ao n c es → (∀ e ∈ es, e.length ≤ 1099511627776) → n ≤ 1099511627776 →
    Calls Tryd.prog 15 #[.slice ao n c] w fun e w' => e = .returned (.string ⟨(rootL es).toArray⟩) ∧ Below w.heap.size w w' := by
  intro n
  induction n using Nat.strongRecOn with
  | _ n ih =>
    intro es hes ao c w hs hl hn
    have IH := keep ih
    have HS := keep hs
    have HL := keep hl
    have hcap := hs.cap
    clear ih hl
    by_cases h0 : n = 0
    · subst h0
      have he : es = [] := List.length_eq_zero_iff.1 hes
      subst he
      have SM := keep (rsumK none 0 0 [] w (by decide) (Src.empty (fun _ => rfl)))
      have hR : rootL [] = Sha.sum [] := Mt.root_nil _ _
      rw [hR]
      clear hs hR
      go_enter Tryd.func15, Tryd.ntmps15
      go_wp2_with fail
      refine SM.out.mono ?_
      rintro e w2 ⟨rfl, hb⟩
      have BF := keep hb
      clear hb
      go_wp2
      go_ret
      exact ⟨rfl, BF.out⟩
    obtain ⟨b, off, rfl, hbw, hcell⟩ := strs_at hs (by omega)
    have n0 : ((n : Int) == 0) = false := by simp; omega
    have n0d : decide ((n : Int) = 0) = false := decide_eq_false (by omega)
    have nn0 : ¬ (n : Int) = 0 := by omega
    by_cases h1 : n = 1
    · subst h1
      obtain ⟨a, ha⟩ : ∃ a, es = [a] := by
        match es, hes with
        | [a], _ => exact ⟨a, rfl⟩
      subst ha
      have c0 := hcell 0 a rfl
      rw [Nat.add_zero] at c0
      have hR : rootL [a] = a := Mt.root_one _ _ _
      rw [hR]
      clear hs hR hcell
      go_enter Tryd.func15, Tryd.ntmps15
      go_wp2
      go_ret
      exact ⟨rfl, Below.refl _ _⟩
    have h2 : 2 ≤ n := by omega
    have n1 : ¬ (n : Int) = 1 := by omega
    have hlt := Mt.cut_lt h2
    have hpo := Mt.cut_pos n
    have CU := keep (rcut_any n w h2 (by omega))
    have hR : rootL es = nodeL (rootL (es.take (Mt.cut n))) (rootL (es.drop (Mt.cut n))) := by unfold rootL; rw [Mt.root_two nodeL nilL (l := es) (by omega), hes]
    rw [hR]
    obtain ⟨k, hk⟩ : ∃ k, Mt.cut n = k := ⟨_, rfl⟩
    rw [hk] at hlt hpo CU ⊢
    obtain ⟨X, hX⟩ : ∃ X, rootL (es.take k) = X := ⟨_, rfl⟩
    obtain ⟨Y, hY⟩ : ∃ Y, rootL (es.drop k) = Y := ⟨_, rfl⟩
    rw [hX, hY]
    have RA : Hid (∀ w', Below w.heap.size w w' → Calls Tryd.prog 15 #[.slice (some ⟨b, off, none⟩) k c] w' fun e w'' => e = .returned (.string ⟨X.toArray⟩) ∧ Below w.heap.size w w'') := fun w' hb => by
      refine (IH.out k hlt (es.take k) (by rw [List.length_take]; omega) _ c w' ((HS.out.below strKind_ok hb).head strKind_ok k (by omega)) (fun e he => HL.out e (List.mem_of_mem_take he)) (by omega)).mono ?_
      rintro e w'' ⟨rfl, hb2⟩
      exact ⟨by rw [hX], hb.trans (hb2.mono hb.size)⟩
    have RB : Hid (∀ w', Below w.heap.size w w' → Calls Tryd.prog 15 #[.slice (some ⟨b, off + k, none⟩) (n - k) (c - k)] w' fun e w'' => e = .returned (.string ⟨Y.toArray⟩) ∧ Below w.heap.size w w'') := fun w' hb => by
      refine (IH.out (n - k) (by omega) (es.drop k) (by rw [List.length_drop]; omega) _ (c - k) w' (strs_tail (HS.out.below strKind_ok hb) k (by omega)) (fun e he => HL.out e (List.mem_of_mem_drop he)) (by omega)).mono ?_
      rintro e w'' ⟨rfl, hb2⟩
      exact ⟨by rw [hY], hb.trans (hb2.mono hb.size)⟩
    have XL : Hid (X.length + Y.length ≤ 140737488354000) := by
      have q1 := rootL_len (es := es.take k) (fun e he => HL.out e (List.mem_of_mem_take he))
      have q2 := rootL_len (es := es.drop k) (fun e he => HL.out e (List.mem_of_mem_drop he))
      rw [hX] at q1
      rw [hY] at q2
      show _ ≤ _
      omega
    have k0 : (0 : Int) ≤ (k : Int) := by omega
    have k1 : (k : Int) ≤ (n : Int) := by omega
    have k2 : (k : Int) ≤ (c : Int) := by omega
    have k3 : (n : Int) ≤ (c : Int) := by omega
    have k4 : ¬ k = 0 := by omega
    have k5 : ¬ c = k := by omega
    have e1 : (n : Int) - (k : Int) = ((n - k : Nat) : Int) := by omega
    have e2 : (c : Int) - (k : Int) = ((c - k : Nat) : Int) := by omega
    clear hs hcell hR hX hY hk hbw
    go_enter Tryd.func15, Tryd.ntmps15
    go_wp2_with fail
    refine CU.out.mono ?_
    rintro e w1 ⟨rfl, hb1⟩
    have b1 := keep hb1
    clear hb1 CU
    go_wp2_with fail
    refine wp_region_held_drew (S := fun w' => Below w.heap.size w w') (by kernel_rfl) (b1.out.drew) (fun hZ => ?_)
    refine takeH (i := 0) 17 (v := .slice (some ⟨b, off, none⟩) n c) rfl rfl (by kernel_rfl) (by kernel_rfl) (by kernel_rfl) (fun _ _ _ h => h) (Or.inl ⟨by rfl, ?_⟩) (by assumption) ?_
    · intro w' hSw'
      go_simp
    simp only [Act.put, List.setIfInBounds_toArray, List.set_cons_zero, List.set_cons_succ]
    refine takeH (i := 1) 18 (v := .int .i64 (k : Int)) rfl rfl (by kernel_rfl) (by kernel_rfl) (by kernel_rfl) (fun _ _ _ h => h) (Or.inl ⟨by rfl, ?_⟩) (by assumption) ?_
    · intro w' hSw'
      go_simp
    simp only [Act.put, List.setIfInBounds_toArray, List.set_cons_zero, List.set_cons_succ]
    refine takeH (i := 2) 19 (v := .slice (some ⟨b, off, none⟩) k c) rfl rfl (by kernel_rfl) (by kernel_rfl) (by kernel_rfl) (fun _ _ _ h => h) (Or.inl ⟨by rfl, ?_⟩) (by assumption) ?_
    · intro w' hSw'
      go_simp
    simp only [Act.put, List.setIfInBounds_toArray, List.set_cons_zero, List.set_cons_succ]
    refine takeH (i := 4) 21 (v := .slice (some ⟨b, off, none⟩) n c) rfl rfl (by kernel_rfl) (by kernel_rfl) (by kernel_rfl) (fun _ _ _ h => h) (Or.inl ⟨by rfl, ?_⟩) (by assumption) ?_
    · intro w' hSw'
      go_simp
    simp only [Act.put, List.setIfInBounds_toArray, List.set_cons_zero, List.set_cons_succ]
    refine takeH (i := 5) 0x16 (v := .int .i64 (k : Int)) rfl rfl (by kernel_rfl) (by kernel_rfl) (by kernel_rfl) (fun _ _ _ h => h) (Or.inl ⟨by rfl, ?_⟩) (by assumption) ?_
    · intro w' hSw'
      go_simp
    simp only [Act.put, List.setIfInBounds_toArray, List.set_cons_zero, List.set_cons_succ]
    refine takeH (i := 6) 23 (v := .slice (some ⟨b, off + k, none⟩) (n - k) (c - k)) rfl rfl (by kernel_rfl) (by kernel_rfl) (by kernel_rfl) (fun _ _ _ h => h) (Or.inl ⟨by rfl, ?_⟩) (by assumption) ?_
    · intro w' hSw'
      go_simp
    simp only [Act.put, List.setIfInBounds_toArray, List.set_cons_zero, List.set_cons_succ]
    refine wpAnyH_ready (rs := [3]) (by kernel_rfl) (by simp) ?_
    refine AllReadyH.cons rfl (fun K hK => ?_) AllReadyH.nil
    go_simp
    refine (RA.out _ b1.out.drew).mono ?_
    rintro e w2 ⟨rfl, hb2⟩
    have b2 := keep hb2
    clear hb2
    go_wp2_with fail
    refine hK.out _ _ (b2.out) (fun hZ1 => ?_)
    clear hK K
    refine wpAnyH_ready (rs := [7]) (by kernel_rfl) (by simp) ?_
    refine AllReadyH.cons rfl (fun K hK => ?_) AllReadyH.nil
    go_simp
    refine (RB.out w2 b2.out).mono ?_
    rintro e w3 ⟨rfl, hb3⟩
    have b3 := keep hb3
    clear hb3
    go_wp2_with fail
    refine hK.out _ _ (b3.out) (fun hZ2 => ?_)
    clear hK K
    refine wpAnyH_ready (rs := [8]) (by kernel_rfl) (by simp) ?_
    refine AllReadyH.cons rfl (fun K hK => ?_) AllReadyH.nil
    go_simp
    refine (rnode_any X Y w3 XL.out).mono ?_
    rintro e w4 ⟨rfl, hb4⟩
    have b4 := keep (b3.out.trans (hb4.mono b3.out.size))
    clear hb4
    go_wp2_with fail
    refine hK.out _ _ (b4.out) (fun hZ3 => ?_)
    clear hK K
    refine takeH (i := 9) 2 (v := .string ⟨(nodeL X Y).toArray⟩) rfl rfl (by kernel_rfl) (by kernel_rfl) (by kernel_rfl) (fun _ _ _ h => h) (Or.inl ⟨by rfl, ?_⟩) (by assumption) ?_
    · intro w' hSw'
      go_simp
    simp only [Act.put, List.setIfInBounds_toArray, List.set_cons_zero, List.set_cons_succ]
    refine wpAnyH_done (by kernel_rfl) ?_ _
    go_wp2
    go_ret
    exact ⟨rfl, b4.out⟩
end Go.Proofs.YtelebhcaljepaaaDoor
namespace Go.Proofs.YtelebhcaljepaaaDoor
open Go.RowKit

set_option maxHeartbeats 2000000 in
set_option maxRecDepth 100000 in
theorem rpath_bad (n : Nat) (i : Int) (ao : Option Addr) (c : Nat) (w : World) (hi : i < 0 ∨ (n : Int) ≤ i) :
    Calls Tryd.prog 17 #[.slice ao n c, .int .i64 i] w fun e w' => e = .returned (.tuple #[.slice none 0 0, .int .i64 8]) ∧ Below w.heap.size w w' := by
  go_enter Tryd.func17, Tryd.ntmps17
  by_cases h : i < 0
  · go_wp2
    go_ret2
    exact ⟨rfl, Below.refl _ _⟩
  · have h1 : (n : Int) ≤ i := by omega
    go_wp2
    go_ret2
    exact ⟨rfl, Below.refl _ _⟩
set_option maxHeartbeats 2000000 in
set_option maxRecDepth 100000 in
theorem rpath_any : ∀ (n : Nat) (es : List (List UInt8)), es.length = n → ∀ (i : Nat), i < n → ∀ (ao : Option Addr) (c : Nat) (w : World), RSrc strKind w ao n c es → (∀ e ∈ es, e.length ≤ 1099511627776) → n ≤ 1099511627776 →
    Calls Tryd.prog 17 #[.slice ao n c, .int .i64 (i : Int)] w (RowA w (pathL es i)) := by
  intro n
  induction n using Nat.strongRecOn with
  | _ n ih =>
    intro es hes i hin ao c w hs hl hn
    obtain ⟨i0, hi0, hz0, hz1, hz2⟩ := info_partsS infoS
    have IH := keep ih
    have HS := keep hs
    have HL := keep hl
    have hcap := hs.cap
    clear ih hl
    obtain ⟨b, off, rfl, hbw, hcell⟩ := strs_at hs (by omega)
    clear hcell hbw hs
    have i1 : ¬ (i : Int) < 0 := by omega
    have i2 : ¬ (n : Int) ≤ (i : Int) := by omega
    by_cases h1 : n = 1
    · subst h1
      have hR : pathL es i = [] := Mt.path_one _ _ (by omega) i
      rw [hR]
      clear hR
      go_enter Tryd.func17, Tryd.ntmps17
      go_wp2
      go_ret2
      exact ⟨_, rfl, World.ownsRow_nil _ _ _ _, Below.refl _ _⟩
    have h2 : 2 ≤ n := by omega
    have n1 : ¬ (n : Int) = 1 := by omega
    have hlt := Mt.cut_lt h2
    have hpo := Mt.cut_pos n
    have CU := keep (rcut_any n w h2 (by omega))
    have LEFT : Hid (i < Mt.cut n → pathL es i = pathL (es.take (Mt.cut n)) i ++ [rootL (es.drop (Mt.cut n))]) := fun h => by
      have := Mt.path_left nodeL nilL (l := es) (by omega) (i := i) (by rw [hes]; exact h)
      rw [hes] at this
      exact this
    have RIGHT : Hid (¬ i < Mt.cut n → pathL es i = pathL (es.drop (Mt.cut n)) (i - Mt.cut n) ++ [rootL (es.take (Mt.cut n))]) := fun h => by
      have := Mt.path_right nodeL nilL (l := es) (by omega) (i := i) (by rw [hes]; exact h)
      rw [hes] at this
      exact this
    obtain ⟨k, hk⟩ : ∃ k, Mt.cut n = k := ⟨_, rfl⟩
    rw [hk] at hlt hpo CU LEFT RIGHT
    have RA : Hid (∀ w', Below w.heap.size w w' → Calls Tryd.prog 15 #[.slice (some ⟨b, off, none⟩) k c] w' fun e w'' => e = .returned (.string ⟨(rootL (es.take k)).toArray⟩) ∧ Below w'.heap.size w' w'') := fun w' hb => rroot_any k (es.take k) (by rw [List.length_take]; omega) _ c w' ((HS.out.below strKind_ok hb).head strKind_ok k (by omega)) (fun e he => HL.out e (List.mem_of_mem_take he)) (by omega)
    have RB : Hid (∀ w', Below w.heap.size w w' → Calls Tryd.prog 15 #[.slice (some ⟨b, off + k, none⟩) (n - k) (c - k)] w' fun e w'' => e = .returned (.string ⟨(rootL (es.drop k)).toArray⟩) ∧ Below w'.heap.size w' w'') := fun w' hb => rroot_any (n - k) (es.drop k) (by rw [List.length_drop]; omega) _ (c - k) w' (strs_tail (HS.out.below strKind_ok hb) k (by omega)) (fun e he => HL.out e (List.mem_of_mem_drop he)) (by omega)
    have k0 : (0 : Int) ≤ (k : Int) := by omega
    have k1 : (k : Int) ≤ (n : Int) := by omega
    have k2 : (k : Int) ≤ (c : Int) := by omega
    have k3 : (n : Int) ≤ (c : Int) := by omega
    have k4 : ¬ k = 0 := by omega
    have k5 : ¬ c = k := by omega
    have e1 : (n : Int) - (k : Int) = ((n - k : Nat) : Int) := by omega
    have e2 : (c : Int) - (k : Int) = ((c - k : Nat) : Int) := by omega
    by_cases hik : i < k
    · have hp := LEFT.out hik
      rw [hp]
      have PL : Hid ((pathL (es.take k) i).length ≤ 40) := pathL_len (by rw [List.length_take]; omega) (by rw [List.length_take]; omega)
      have ik : (i : Int) < (k : Int) := by omega
      clear hp LEFT RIGHT hk
      obtain ⟨P, hP⟩ : ∃ P, pathL (es.take k) i = P := ⟨_, rfl⟩
      rw [hP] at PL ⊢
      have HP := keep hP
      clear hP
      obtain ⟨Y, hY⟩ : ∃ Y, rootL (es.drop k) = Y := ⟨_, rfl⟩
      rw [hY] at RB ⊢
      clear hY
      go_enter Tryd.func17, Tryd.ntmps17
      go_wp2_with fail
      refine CU.out.mono ?_
      rintro e w1 ⟨rfl, hb1⟩
      have b1 := keep hb1
      have PA := keep (IH.out k hlt (es.take k) (by rw [List.length_take]; omega) i hik _ c w1 ((HS.out.below strKind_ok b1.out).head strKind_ok k (by omega)) (fun e he => HL.out e (List.mem_of_mem_take he)) (by omega))
      rw [HP.out] at PA
      clear hb1 CU
      go_wp2_with fail
      refine PA.out.mono ?_
      rintro e w2 ⟨v, rfl, ho, hb2⟩
      have b2 := keep (b1.out.trans (hb2.mono b1.out.size))
      have O2 := keep (own_low ho b1.out.size)
      obtain ⟨vp, vc, hv⟩ := own_is ho
      subst hv
      clear ho hb2 PA
      go_wp2_with fail
      refine (RB.out w2 b2.out).mono ?_
      rintro e w3 ⟨rfl, hb3⟩
      have b3 := keep (b2.out.trans (hb3.mono b2.out.size))
      have O3 := keep (own_next O2.out hb3)
      clear hb3
      obtain ⟨M, hM⟩ : ∃ M, P.length = M := ⟨_, rfl⟩
      have HM := keep hM
      rw [hM] at O3 PL ⊢
      have hpl := PL.out
      clear hM
      have rc := keep (rec_cells (k := strKind) w3 9 Y)
      have b4 := keep (b3.out.alloc b3.out.size (.cells #[.string ⟨Y.toArray⟩] 9))
      have O4 : Hid ((w3.alloc (.cells #[.string ⟨Y.toArray⟩] 9)).ownsRow w.heap.size 9 1 (.slice vp M vc) M (rv strKind P)) := own_next O3.out ((Below.refl _ _).alloc (Nat.le_refl _) _)
      go_wp2_with (at_builtin; go_loud (refine wpList_append_rec strKind_ok rfl _ _ 22 9 rfl w.heap.size i0 _ 16 Tryd.underlying22 hi0 hz0 hz1 hz2 rfl (.slice vp M vc) M P rfl O4.out _ 1 Y rfl rc.out (by unfold maxLen; omega) (by omega) b4.out.size ?_); intro v7 w7 ho7 hg7; have O7 := keep ho7; have b7 := keep (b4.out.grown hg7 b4.out.size (fun j hj => (O4.out.lt j hj).1)); clear ho7 hg7)
      go_ret2
      exact ⟨v7, rfl, by rw [List.length_append, HM.out]; exact O7.out, b7.out⟩
    · have hp := RIGHT.out hik
      rw [hp]
      have PL : Hid ((pathL (es.drop k) (i - k)).length ≤ 40) := pathL_len (by rw [List.length_drop]; omega) (by rw [List.length_drop]; omega)
      have ik : ¬ (i : Int) < (k : Int) := by omega
      have e3 : (i : Int) - (k : Int) = ((i - k : Nat) : Int) := by omega
      clear hp LEFT RIGHT hk
      obtain ⟨P, hP⟩ : ∃ P, pathL (es.drop k) (i - k) = P := ⟨_, rfl⟩
      rw [hP] at PL ⊢
      have HP := keep hP
      clear hP
      obtain ⟨Y, hY⟩ : ∃ Y, rootL (es.take k) = Y := ⟨_, rfl⟩
      rw [hY] at RA ⊢
      clear hY
      go_enter Tryd.func17, Tryd.ntmps17
      go_wp2_with fail
      refine CU.out.mono ?_
      rintro e w1 ⟨rfl, hb1⟩
      have b1 := keep hb1
      have PA := keep (IH.out (n - k) (by omega) (es.drop k) (by rw [List.length_drop]; omega) (i - k) (by omega) _ (c - k) w1 (strs_tail (HS.out.below strKind_ok b1.out) k (by omega)) (fun e he => HL.out e (List.mem_of_mem_drop he)) (by omega))
      rw [HP.out] at PA
      clear hb1 CU
      go_wp2_with fail
      refine PA.out.mono ?_
      rintro e w2 ⟨v, rfl, ho, hb2⟩
      have b2 := keep (b1.out.trans (hb2.mono b1.out.size))
      have O2 := keep (own_low ho b1.out.size)
      obtain ⟨vp, vc, hv⟩ := own_is ho
      subst hv
      clear ho hb2 PA
      go_wp2_with fail
      refine (RA.out w2 b2.out).mono ?_
      rintro e w3 ⟨rfl, hb3⟩
      have b3 := keep (b2.out.trans (hb3.mono b2.out.size))
      have O3 := keep (own_next O2.out hb3)
      clear hb3
      obtain ⟨M, hM⟩ : ∃ M, P.length = M := ⟨_, rfl⟩
      have HM := keep hM
      rw [hM] at O3 PL ⊢
      have hpl := PL.out
      clear hM
      have rc := keep (rec_cells (k := strKind) w3 9 Y)
      have b4 := keep (b3.out.alloc b3.out.size (.cells #[.string ⟨Y.toArray⟩] 9))
      have O4 : Hid ((w3.alloc (.cells #[.string ⟨Y.toArray⟩] 9)).ownsRow w.heap.size 9 1 (.slice vp M vc) M (rv strKind P)) := own_next O3.out ((Below.refl _ _).alloc (Nat.le_refl _) _)
      go_wp2_with (at_builtin; go_loud (refine wpList_append_rec strKind_ok rfl _ _ 22 9 rfl w.heap.size i0 _ 16 Tryd.underlying22 hi0 hz0 hz1 hz2 rfl (.slice vp M vc) M P rfl O4.out _ 1 Y rfl rc.out (by unfold maxLen; omega) (by omega) b4.out.size ?_); intro v7 w7 ho7 hg7; have O7 := keep ho7; have b7 := keep (b4.out.grown hg7 b4.out.size (fun j hj => (O4.out.lt j hj).1)); clear ho7 hg7)
      go_ret2
      exact ⟨v7, rfl, by rw [List.length_append, HM.out]; exact O7.out, b7.out⟩
end Go.Proofs.YtelebhcaljepaaaDoor
namespace Go.Proofs.YtelebhcaljepaaaDoor
open Go.RowKit

set_option maxHeartbeats 2000000 in
set_option maxRecDepth 100000 in
theorem rsub_any : ∀ (n : Nat) (es : List (List UInt8)), es.length = n → ∀ (m : Nat) (own : Bool), 1 ≤ m → m ≤ n → ∀ (ao : Option Addr) (c : Nat) (w : World), RSrc strKind w ao n c es → (∀ e ∈ es, e.length ≤ 1099511627776) → n ≤ 1099511627776 →
    Calls Tryd.prog 36 #[.int .i64 (m : Int), .slice ao n c, .bool own] w (RowR w (subL m es own)) := by
  intro n
  induction n using Nat.strongRecOn with
  | _ n ih =>
    intro es hes m own hm1 hmn ao c w hs hl hn
    obtain ⟨i0, hi0, hz0, hz1, hz2⟩ := info_partsS infoS
    have IH := keep ih
    have HS := keep hs
    have HL := keep hl
    have hcap := hs.cap
    clear ih hl
    obtain ⟨b, off, rfl, hbw, hcell⟩ := strs_at hs (by omega)
    clear hcell hbw hs
    by_cases hm : m = n
    · subst hm
      have hR : subL m es own = if own then [] else [rootL es] := Mt.sub_all nodeL nilL hes.symm own
      rw [hR]
      clear hR
      cases own with
      | true =>
        rw [if_pos rfl]
        go_enter Tryd.func36, Tryd.ntmps36
        go_wp2
        go_ret
        exact ⟨_, rfl, World.ownsRow_nil _ _ _ _, Below.refl _ _⟩
      | false =>
        rw [if_neg (by decide)]
        have RA := keep (rroot_any m es hes _ c w HS.out HL.out hn)
        obtain ⟨Y, hY⟩ : ∃ Y, rootL es = Y := ⟨_, rfl⟩
        rw [hY] at RA ⊢
        clear hY
        go_enter Tryd.func36, Tryd.ntmps36
        go_wp2_with fail
        refine RA.out.mono ?_
        rintro e w1 ⟨rfl, hb1⟩
        have b1 := keep hb1
        clear hb1
        go_wp2
        go_ret
        exact ⟨_, rfl, own_one b1.out.size, b1.out.alloc b1.out.size _⟩
    have hmlt : m < n := by omega
    have mn : ¬ (m : Int) = (n : Int) := by omega
    have h2 : 2 ≤ n := by omega
    have hlt := Mt.cut_lt h2
    have hpo := Mt.cut_pos n
    have CU := keep (rcut_any n w h2 (by omega))
    have LEFT : Hid (m ≤ Mt.cut n → subL m es own = subL m (es.take (Mt.cut n)) own ++ [rootL (es.drop (Mt.cut n))]) := fun h => by
      have := Mt.sub_left nodeL nilL (l := es) (m := m) (by omega) hm1 own (by rw [hes]; exact h)
      rw [hes] at this
      exact this
    have RIGHT : Hid (¬ m ≤ Mt.cut n → subL m es own = subL (m - Mt.cut n) (es.drop (Mt.cut n)) false ++ [rootL (es.take (Mt.cut n))]) := fun h => by
      have := Mt.sub_right nodeL nilL (l := es) (m := m) (by omega) hm1 own (by rw [hes]; exact h)
      rw [hes] at this
      exact this
    obtain ⟨k, hk⟩ : ∃ k, Mt.cut n = k := ⟨_, rfl⟩
    rw [hk] at hlt hpo CU LEFT RIGHT
    have RA : Hid (∀ w', Below w.heap.size w w' → Calls Tryd.prog 15 #[.slice (some ⟨b, off, none⟩) k c] w' fun e w'' => e = .returned (.string ⟨(rootL (es.take k)).toArray⟩) ∧ Below w'.heap.size w' w'') := fun w' hb => rroot_any k (es.take k) (by rw [List.length_take]; omega) _ c w' ((HS.out.below strKind_ok hb).head strKind_ok k (by omega)) (fun e he => HL.out e (List.mem_of_mem_take he)) (by omega)
    have RB : Hid (∀ w', Below w.heap.size w w' → Calls Tryd.prog 15 #[.slice (some ⟨b, off + k, none⟩) (n - k) (c - k)] w' fun e w'' => e = .returned (.string ⟨(rootL (es.drop k)).toArray⟩) ∧ Below w'.heap.size w' w'') := fun w' hb => rroot_any (n - k) (es.drop k) (by rw [List.length_drop]; omega) _ (c - k) w' (strs_tail (HS.out.below strKind_ok hb) k (by omega)) (fun e he => HL.out e (List.mem_of_mem_drop he)) (by omega)
    have k0 : (0 : Int) ≤ (k : Int) := by omega
    have k1 : (k : Int) ≤ (n : Int) := by omega
    have k2 : (k : Int) ≤ (c : Int) := by omega
    have k3 : (n : Int) ≤ (c : Int) := by omega
    have k4 : ¬ k = 0 := by omega
    have k5 : ¬ c = k := by omega
    have e1 : (n : Int) - (k : Int) = ((n - k : Nat) : Int) := by omega
    have e2 : (c : Int) - (k : Int) = ((c - k : Nat) : Int) := by omega
    by_cases hik : m ≤ k
    · have hp := LEFT.out hik
      rw [hp]
      have PL : Hid ((subL m (es.take k) own).length ≤ 41) := subL_len (by omega) (by rw [List.length_take]; omega) (by rw [List.length_take]; omega)
      have ik : (m : Int) ≤ (k : Int) := by omega
      clear hp LEFT RIGHT hk
      obtain ⟨P, hP⟩ : ∃ P, subL m (es.take k) own = P := ⟨_, rfl⟩
      rw [hP] at PL ⊢
      have HP := keep hP
      clear hP
      have PA : Hid (∀ w', Below w.heap.size w w' → Calls Tryd.prog 36 #[.int .i64 (m : Int), .slice (some ⟨b, off, none⟩) k c, .bool own] w' (RowR w' P)) := fun w' hb => by rw [← HP.out]; exact IH.out k hlt (es.take k) (by rw [List.length_take]; omega) m own hm1 hik _ c w' ((HS.out.below strKind_ok hb).head strKind_ok k (by omega)) (fun e he => HL.out e (List.mem_of_mem_take he)) (by omega)
      obtain ⟨Y, hY⟩ : ∃ Y, rootL (es.drop k) = Y := ⟨_, rfl⟩
      rw [hY] at RB ⊢
      clear hY
      obtain ⟨M, hM⟩ : ∃ M, P.length = M := ⟨_, rfl⟩
      have HM := keep hM
      rw [hM] at PL
      have hpl := PL.out
      clear hM
      go_enter Tryd.func36, Tryd.ntmps36
      go_wp2_with fail
      refine CU.out.mono ?_
      rintro e w1 ⟨rfl, hb1⟩
      have b1 := keep hb1
      clear hb1 CU
      go_wp2_with fail
      refine wp_region_held_drew (S := fun w' => Below w.heap.size w w') (by kernel_rfl) (b1.out.drew) (fun hZ => ?_)
      refine takeH (i := 0) 0x16 (v := .int .i64 (m : Int)) rfl rfl (by kernel_rfl) (by kernel_rfl) (by kernel_rfl) (fun _ _ _ h => h) (Or.inl ⟨by rfl, ?_⟩) (by assumption) ?_
      · intro w' hSw'
        go_simp
      simp only [Act.put, List.setIfInBounds_toArray, List.set_cons_zero, List.set_cons_succ]
      refine takeH (i := 1) 23 (v := .slice (some ⟨b, off, none⟩) n c) rfl rfl (by kernel_rfl) (by kernel_rfl) (by kernel_rfl) (fun _ _ _ h => h) (Or.inl ⟨by rfl, ?_⟩) (by assumption) ?_
      · intro w' hSw'
        go_simp
      simp only [Act.put, List.setIfInBounds_toArray, List.set_cons_zero, List.set_cons_succ]
      refine takeH (i := 2) 24 (v := .int .i64 (k : Int)) rfl rfl (by kernel_rfl) (by kernel_rfl) (by kernel_rfl) (fun _ _ _ h => h) (Or.inl ⟨by rfl, ?_⟩) (by assumption) ?_
      · intro w' hSw'
        go_simp
      simp only [Act.put, List.setIfInBounds_toArray, List.set_cons_zero, List.set_cons_succ]
      refine takeH (i := 3) 25 (v := .slice (some ⟨b, off, none⟩) k c) rfl rfl (by kernel_rfl) (by kernel_rfl) (by kernel_rfl) (fun _ _ _ h => h) (Or.inl ⟨by rfl, ?_⟩) (by assumption) ?_
      · intro w' hSw'
        go_simp
      simp only [Act.put, List.setIfInBounds_toArray, List.set_cons_zero, List.set_cons_succ]
      refine takeH (i := 4) 26 (v := .bool own) rfl rfl (by kernel_rfl) (by kernel_rfl) (by kernel_rfl) (fun _ _ _ h => h) (Or.inl ⟨by rfl, ?_⟩) (by assumption) ?_
      · intro w' hSw'
        go_simp
      simp only [Act.put, List.setIfInBounds_toArray, List.set_cons_zero, List.set_cons_succ]
      refine takeH (i := 6) 28 (v := .slice (some ⟨b, off, none⟩) n c) rfl rfl (by kernel_rfl) (by kernel_rfl) (by kernel_rfl) (fun _ _ _ h => h) (Or.inl ⟨by rfl, ?_⟩) (by assumption) ?_
      · intro w' hSw'
        go_simp
      simp only [Act.put, List.setIfInBounds_toArray, List.set_cons_zero, List.set_cons_succ]
      refine takeH (i := 7) 29 (v := .int .i64 (k : Int)) rfl rfl (by kernel_rfl) (by kernel_rfl) (by kernel_rfl) (fun _ _ _ h => h) (Or.inl ⟨by rfl, ?_⟩) (by assumption) ?_
      · intro w' hSw'
        go_simp
      simp only [Act.put, List.setIfInBounds_toArray, List.set_cons_zero, List.set_cons_succ]
      refine takeH (i := 8) 30 (v := .slice (some ⟨b, off + k, none⟩) (n - k) (c - k)) rfl rfl (by kernel_rfl) (by kernel_rfl) (by kernel_rfl) (fun _ _ _ h => h) (Or.inl ⟨by rfl, ?_⟩) (by assumption) ?_
      · intro w' hSw'
        go_simp
      simp only [Act.put, List.setIfInBounds_toArray, List.set_cons_zero, List.set_cons_succ]
      refine wpAnyH_ready (rs := [5]) (by kernel_rfl) (by simp) ?_
      refine AllReadyH.cons rfl (fun K hK => ?_) AllReadyH.nil
      go_simp
      refine (PA.out _ b1.out.drew).mono ?_
      rintro e w2 ⟨v, rfl, ho, hb2⟩
      have b2 := keep (b1.out.drew.trans (hb2.mono b1.out.size))
      have O2 := keep (own_low ho b1.out.size)
      obtain ⟨vp, vc, hv⟩ := own_is ho
      subst hv
      rw [HM.out] at O2 ⊢
      clear ho hb2
      go_wp2_with fail
      refine hK.out _ _ (b2.out) (fun hZ1 => ?_)
      clear hK K
      refine wpAnyH_ready (rs := [9]) (by kernel_rfl) (by simp) ?_
      refine AllReadyH.cons rfl (fun K hK => ?_) AllReadyH.nil
      go_simp
      refine (RB.out w2 b2.out).mono ?_
      rintro e w3 ⟨rfl, hb3⟩
      have b3 := keep (b2.out.trans (hb3.mono b2.out.size))
      have O3 := keep (own_next O2.out hb3)
      clear hb3
      go_wp2_with fail
      refine hK.out _ _ (b3.out) (fun hZ2 => ?_)
      clear hK K
      have rc := keep (rec_cells (k := strKind) w3 9 Y)
      have b4 := keep (b3.out.alloc b3.out.size (.cells #[.string ⟨Y.toArray⟩] 9))
      have O4 : Hid ((w3.alloc (.cells #[.string ⟨Y.toArray⟩] 9)).ownsRow w.heap.size 9 1 (.slice vp M vc) M (rv strKind P)) := own_next O3.out ((Below.refl _ _).alloc (Nat.le_refl _) _)
      refine wpAnyH_ready (rs := [10]) (by kernel_rfl) (by simp) ?_
      refine AllReadyH.cons rfl (fun K hK => ?_) AllReadyH.nil
      go_simp
      refine hK.out _ _ (b4.out) (fun hA1 => ?_)
      clear hK K
      refine wpAnyH_ready (rs := [11]) (by kernel_rfl) (by simp) ?_
      refine AllReadyH.cons rfl (fun K hK => ?_) AllReadyH.nil
      refine step_append_recS strKind_ok rfl _ _ 22 9 rfl w.heap.size i0 _ 16 Tryd.underlying22 hi0 hz0 hz1 hz2 rfl (.slice vp M vc) M P rfl O4.out ⟨w3.heap.size, 0, none⟩ 1 Y rfl rc.out (by unfold maxLen; omega) (by omega) b4.out.size ?_
      intro v7 w7 ho7 hg7
      refine (show K (Act.put _ (some 33) v7) w7 from ?_)
      simp only [Act.put, List.setIfInBounds_toArray, List.set_cons_zero, List.set_cons_succ]
      have O7 := keep ho7
      have b7 := keep (b4.out.grown hg7 b4.out.size (fun j hj => (O4.out.lt j hj).1))
      clear ho7 hg7
      refine hK.out _ _ (b7.out) (fun hA2 => ?_)
      clear hK K
      refine takeH (i := 12) 6 (v := v7) rfl rfl (by kernel_rfl) (by kernel_rfl) (by kernel_rfl) (fun _ _ _ h => h) (Or.inl ⟨by rfl, ?_⟩) (by assumption) ?_
      · intro w' hSw'
        go_simp
      simp only [Act.put, List.setIfInBounds_toArray, List.set_cons_zero, List.set_cons_succ]
      refine wpAnyH_done (by kernel_rfl) ?_ _
      go_wp2
      go_ret
      exact ⟨v7, rfl, by rw [List.length_append, HM.out]; exact O7.out, b7.out⟩
    · have hp := RIGHT.out hik
      rw [hp]
      have PL : Hid ((subL (m - k) (es.drop k) false).length ≤ 41) := subL_len (by omega) (by rw [List.length_drop]; omega) (by rw [List.length_drop]; omega)
      have ik : ¬ (m : Int) ≤ (k : Int) := by omega
      have e3 : (m : Int) - (k : Int) = ((m - k : Nat) : Int) := by omega
      clear hp LEFT RIGHT hk
      obtain ⟨P, hP⟩ : ∃ P, subL (m - k) (es.drop k) false = P := ⟨_, rfl⟩
      rw [hP] at PL ⊢
      have HP := keep hP
      clear hP
      have PA : Hid (∀ w', Below w.heap.size w w' → Calls Tryd.prog 36 #[.int .i64 ((m - k : Nat) : Int), .slice (some ⟨b, off + k, none⟩) (n - k) (c - k), .bool false] w' (RowR w' P)) := fun w' hb => by rw [← HP.out]; exact IH.out (n - k) (by omega) (es.drop k) (by rw [List.length_drop]; omega) (m - k) false (by omega) (by omega) _ (c - k) w' (strs_tail (HS.out.below strKind_ok hb) k (by omega)) (fun e he => HL.out e (List.mem_of_mem_drop he)) (by omega)
      obtain ⟨Y, hY⟩ : ∃ Y, rootL (es.take k) = Y := ⟨_, rfl⟩
      rw [hY] at RA ⊢
      clear hY
      obtain ⟨M, hM⟩ : ∃ M, P.length = M := ⟨_, rfl⟩
      have HM := keep hM
      rw [hM] at PL
      have hpl := PL.out
      clear hM
      go_enter Tryd.func36, Tryd.ntmps36
      go_wp2_with fail
      refine CU.out.mono ?_
      rintro e w1 ⟨rfl, hb1⟩
      have b1 := keep hb1
      clear hb1 CU
      go_wp2_with fail
      refine wp_region_held_drew (S := fun w' => Below w.heap.size w w') (by kernel_rfl) (b1.out.drew) (fun hZ => ?_)
      refine takeH (i := 0) 34 (v := .int .i64 (m : Int)) rfl rfl (by kernel_rfl) (by kernel_rfl) (by kernel_rfl) (fun _ _ _ h => h) (Or.inl ⟨by rfl, ?_⟩) (by assumption) ?_
      · intro w' hSw'
        go_simp
      simp only [Act.put, List.setIfInBounds_toArray, List.set_cons_zero, List.set_cons_succ]
      refine takeH (i := 1) 35 (v := .int .i64 (k : Int)) rfl rfl (by kernel_rfl) (by kernel_rfl) (by kernel_rfl) (fun _ _ _ h => h) (Or.inl ⟨by rfl, ?_⟩) (by assumption) ?_
      · intro w' hSw'
        go_simp
      simp only [Act.put, List.setIfInBounds_toArray, List.set_cons_zero, List.set_cons_succ]
      refine takeH (i := 2) 36 (v := .int .i64 ((m - k : Nat) : Int)) rfl rfl (by kernel_rfl) (by kernel_rfl) (by kernel_rfl) (fun _ _ _ h => h) (Or.inl ⟨by rfl, ?_⟩) (by assumption) ?_
      · intro w' hSw'
        go_simp
        exact wrap_small _ (by omega) (by omega)
      simp only [Act.put, List.setIfInBounds_toArray, List.set_cons_zero, List.set_cons_succ]
      refine takeH (i := 3) 37 (v := .slice (some ⟨b, off, none⟩) n c) rfl rfl (by kernel_rfl) (by kernel_rfl) (by kernel_rfl) (fun _ _ _ h => h) (Or.inl ⟨by rfl, ?_⟩) (by assumption) ?_
      · intro w' hSw'
        go_simp
      simp only [Act.put, List.setIfInBounds_toArray, List.set_cons_zero, List.set_cons_succ]
      refine takeH (i := 4) 38 (v := .int .i64 (k : Int)) rfl rfl (by kernel_rfl) (by kernel_rfl) (by kernel_rfl) (fun _ _ _ h => h) (Or.inl ⟨by rfl, ?_⟩) (by assumption) ?_
      · intro w' hSw'
        go_simp
      simp only [Act.put, List.setIfInBounds_toArray, List.set_cons_zero, List.set_cons_succ]
      refine takeH (i := 5) 39 (v := .slice (some ⟨b, off + k, none⟩) (n - k) (c - k)) rfl rfl (by kernel_rfl) (by kernel_rfl) (by kernel_rfl) (fun _ _ _ h => h) (Or.inl ⟨by rfl, ?_⟩) (by assumption) ?_
      · intro w' hSw'
        go_simp
      simp only [Act.put, List.setIfInBounds_toArray, List.set_cons_zero, List.set_cons_succ]
      refine takeH (i := 7) 41 (v := .slice (some ⟨b, off, none⟩) n c) rfl rfl (by kernel_rfl) (by kernel_rfl) (by kernel_rfl) (fun _ _ _ h => h) (Or.inl ⟨by rfl, ?_⟩) (by assumption) ?_
      · intro w' hSw'
        go_simp
      simp only [Act.put, List.setIfInBounds_toArray, List.set_cons_zero, List.set_cons_succ]
      refine takeH (i := 8) 42 (v := .int .i64 (k : Int)) rfl rfl (by kernel_rfl) (by kernel_rfl) (by kernel_rfl) (fun _ _ _ h => h) (Or.inl ⟨by rfl, ?_⟩) (by assumption) ?_
      · intro w' hSw'
        go_simp
      simp only [Act.put, List.setIfInBounds_toArray, List.set_cons_zero, List.set_cons_succ]
      refine takeH (i := 9) 43 (v := .slice (some ⟨b, off, none⟩) k c) rfl rfl (by kernel_rfl) (by kernel_rfl) (by kernel_rfl) (fun _ _ _ h => h) (Or.inl ⟨by rfl, ?_⟩) (by assumption) ?_
      · intro w' hSw'
        go_simp
      simp only [Act.put, List.setIfInBounds_toArray, List.set_cons_zero, List.set_cons_succ]
      refine wpAnyH_ready (rs := [6]) (by kernel_rfl) (by simp) ?_
      refine AllReadyH.cons rfl (fun K hK => ?_) AllReadyH.nil
      go_simp
      refine (PA.out _ b1.out.drew).mono ?_
      rintro e w2 ⟨v, rfl, ho, hb2⟩
      have b2 := keep (b1.out.drew.trans (hb2.mono b1.out.size))
      have O2 := keep (own_low ho b1.out.size)
      obtain ⟨vp, vc, hv⟩ := own_is ho
      subst hv
      rw [HM.out] at O2 ⊢
      clear ho hb2
      go_wp2_with fail
      refine hK.out _ _ (b2.out) (fun hZ1 => ?_)
      clear hK K
      refine wpAnyH_ready (rs := [10]) (by kernel_rfl) (by simp) ?_
      refine AllReadyH.cons rfl (fun K hK => ?_) AllReadyH.nil
      go_simp
      refine (RA.out w2 b2.out).mono ?_
      rintro e w3 ⟨rfl, hb3⟩
      have b3 := keep (b2.out.trans (hb3.mono b2.out.size))
      have O3 := keep (own_next O2.out hb3)
      clear hb3
      go_wp2_with fail
      refine hK.out _ _ (b3.out) (fun hZ2 => ?_)
      clear hK K
      have rc := keep (rec_cells (k := strKind) w3 9 Y)
      have b4 := keep (b3.out.alloc b3.out.size (.cells #[.string ⟨Y.toArray⟩] 9))
      have O4 : Hid ((w3.alloc (.cells #[.string ⟨Y.toArray⟩] 9)).ownsRow w.heap.size 9 1 (.slice vp M vc) M (rv strKind P)) := own_next O3.out ((Below.refl _ _).alloc (Nat.le_refl _) _)
      refine wpAnyH_ready (rs := [11]) (by kernel_rfl) (by simp) ?_
      refine AllReadyH.cons rfl (fun K hK => ?_) AllReadyH.nil
      go_simp
      refine hK.out _ _ (b4.out) (fun hA1 => ?_)
      clear hK K
      refine wpAnyH_ready (rs := [12]) (by kernel_rfl) (by simp) ?_
      refine AllReadyH.cons rfl (fun K hK => ?_) AllReadyH.nil
      refine step_append_recS strKind_ok rfl _ _ 22 9 rfl w.heap.size i0 _ 16 Tryd.underlying22 hi0 hz0 hz1 hz2 rfl (.slice vp M vc) M P rfl O4.out ⟨w3.heap.size, 0, none⟩ 1 Y rfl rc.out (by unfold maxLen; omega) (by omega) b4.out.size ?_
      intro v7 w7 ho7 hg7
      refine (show K (Act.put _ (some 46) v7) w7 from ?_)
      simp only [Act.put, List.setIfInBounds_toArray, List.set_cons_zero, List.set_cons_succ]
      have O7 := keep ho7
      have b7 := keep (b4.out.grown hg7 b4.out.size (fun j hj => (O4.out.lt j hj).1))
      clear ho7 hg7
      refine hK.out _ _ (b7.out) (fun hA2 => ?_)
      clear hK K
      refine takeH (i := 13) 6 (v := v7) rfl rfl (by kernel_rfl) (by kernel_rfl) (by kernel_rfl) (fun _ _ _ h => h) (Or.inl ⟨by rfl, ?_⟩) (by assumption) ?_
      · intro w' hSw'
        go_simp
      simp only [Act.put, List.setIfInBounds_toArray, List.set_cons_zero, List.set_cons_succ]
      refine wpAnyH_done (by kernel_rfl) ?_ _
      go_wp2
      go_ret
      exact ⟨v7, rfl, by rw [List.length_append, HM.out]; exact O7.out, b7.out⟩
set_option maxHeartbeats 2000000 in
set_option maxRecDepth 100000 in
theorem rproof_any (es : List (List UInt8)) (m : Nat) (hm1 : 1 ≤ m) (hmn : m ≤ es.length) (ao : Option Addr) (c : Nat) (w : World) (hs : RSrc strKind w ao es.length c es) (hl : ∀ e ∈ es, e.length ≤ 1099511627776) (hn : es.length ≤ 1099511627776) :
    Calls Tryd.prog 19 #[.slice ao es.length c, .int .i64 (m : Int)] w (RowA w (proofL es m)) := by
  have SU := keep (rsub_any es.length es rfl m true hm1 hmn ao c w hs hl hn)
  obtain ⟨n, hN⟩ : ∃ n, es.length = n := ⟨_, rfl⟩
  rw [hN] at SU hmn ⊢
  have m1 : ¬ (m : Int) < 1 := by omega
  have m2 : ¬ (n : Int) < (m : Int) := by omega
  clear hs hN
  go_enter Tryd.func19, Tryd.ntmps19
  go_wp2_with fail
  refine SU.out.mono ?_
  rintro e w1 ⟨v, rfl, ho, hb⟩
  have O1 := keep ho
  have B1 := keep hb
  clear ho hb SU
  go_wp2
  go_ret2
  exact ⟨v, rfl, O1.out, B1.out⟩
set_option maxHeartbeats 2000000 in
set_option maxRecDepth 100000 in
theorem rproof_bad (n : Nat) (m : Int) (ao : Option Addr) (c : Nat) (w : World) (hm : m < 1 ∨ (n : Int) < m) :
    Calls Tryd.prog 19 #[.slice ao n c, .int .i64 m] w fun e w' => e = .returned (.tuple #[.slice none 0 0, .int .i64 8]) ∧ Below w.heap.size w w' := by
  go_enter Tryd.func19, Tryd.ntmps19
  by_cases h : m < 1
  · go_wp2
    go_ret2
    exact ⟨rfl, Below.refl _ _⟩
  · have h1 : (n : Int) < m := by omega
    go_wp2
    go_ret2
    exact ⟨rfl, Below.refl _ _⟩
end Go.Proofs.YtelebhcaljepaaaDoor
