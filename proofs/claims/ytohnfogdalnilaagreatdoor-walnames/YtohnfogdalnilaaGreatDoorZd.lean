/- The walk of WalNames. -/
import Derived.Test.YtohnfogdalnilaaGreatDoorJoinZc
import Derived.Deep.RegionHeld3
import Derived.Deep.RegionWith
namespace Go.Proofs.YtohnfogdalnilaaGreatDoor
open Go.RowKit
open Dk (File Disk)

/-- A disk that has nn segments' files and no others. -/
structure Segs (d : Disk) (nn t : Nat) : Prop where
  good : Dk.Good d
  lit : d.dark = false
  left : d.left = none
  cap : d.cap = 1099511627776
  len : d.files.length = nn
  names : ∀ f ∈ d.files, ∃ k, isSeg k = true ∧ f.name = segName k
  used : Dk.used d.files ≤ t * 100
  done : d.done ≤ t * 1001
theorem Segs.new : Segs ⟨1099511627776, [], 0, none, false⟩ 0 0 := ⟨Dk.new_good _, rfl, rfl, rfl, rfl, (fun f h => by cases h), (by show (0 : Nat) ≤ 0; omega), (by show (0 : Nat) ≤ 0; omega)⟩
theorem Segs.next {d : Disk} {nn t : Nat} (h : Segs d nn t) : Segs d nn (t + 1) := ⟨h.good, h.lit, h.left, h.cap, h.len, h.names, Nat.le_trans h.used (Nat.mul_le_mul_right _ (Nat.le_succ _)), Nat.le_trans h.done (Nat.mul_le_mul_right _ (Nat.le_succ _))⟩
theorem Segs.add {d : Disk} {nn t : Nat} (h : Segs d nn t) (ht : t ≤ 20) {z : Int} (hz : isSeg z = true) : ∃ d', walAdd d z [120] = (0, d') ∧ Segs d' (nn + (if (Dk.look d.files (segName z)).isSome then 0 else 1)) (t + 1) := by
  have hf := frame_le (body := [120]) (by decide)
  have h1 : ([120] : List UInt8).length = 1 := rfl
  have hu := h.used
  obtain ⟨d', e, g⟩ := wal_grew h.good h.lit h.left hz (body := [120]) (by decide) (by rw [h.cap]; omega)
  refine ⟨d', e, g.good, g.lit, g.left, g.cap.trans h.cap, by rw [g.len, h.len], fun f hf => ?_, ?_, ?_⟩
  · by_cases hn : f.name = segName z
    · exact ⟨z, hz, hn⟩
    · have h2 := Dk.look_mem g.good.rising hf
      rw [g.other f.name hn] at h2
      exact h.names f (Dk.look_some h2).1
  · have h2 := g.used
    have h3 := segName_len hz
    split at h2 <;> omega
  · have h2 := g.done
    have h3 := h.done
    omega
theorem Segs.list : ∀ {l : List File}, Dk.Rising l → (∀ f ∈ l, ∃ k, isSeg k = true ∧ f.name = segName k) → ∃ ks : List Int, l.map (·.name) = ks.map segName ∧ (∀ k ∈ ks, isSeg k = true) ∧ List.Pairwise (fun a b => a < b) ks
  | [], _, _ => ⟨[], rfl, (fun k h => by cases h), List.Pairwise.nil⟩
  | f :: t, hr, h => by
    obtain ⟨ks, h1, h2, h3⟩ := Segs.list hr.2 (fun g hg => h g (by simp [hg]))
    obtain ⟨k, hk, hn⟩ := h f (by simp)
    refine ⟨k :: ks, by simp [h1, hn], fun q hq => ?_, List.Pairwise.cons (fun q hq => ?_) h3⟩
    · rcases List.mem_cons.1 hq with rfl | hq
      · exact hk
      · exact h2 q hq
    · have h4 : segName q ∈ t.map (·.name) := by rw [h1]; exact List.mem_map.2 ⟨q, hq, rfl⟩
      obtain ⟨g, hg, hgn⟩ := List.mem_map.1 h4
      have h5 := hr.1 g hg
      rw [hn, hgn] at h5
      exact seg_rise hk (h2 q hq) h5
theorem used_len : ∀ (l : List File), l.length ≤ Dk.used l
  | [] => Nat.le_refl _
  | f :: t => by
    have := used_len t
    simp only [Dk.used, Dk.cost, List.length_cons]
    omega
theorem int_at {w : World} {ao : Option Addr} {n c : Nat} {es : List Int} (h : RSrc intKind w ao n c es) (hn : 0 < n) : ∃ b off, ao = some ⟨b, off, none⟩ ∧ b < w.heap.size ∧ ∀ (i : Nat) e, es[i]? = some e → w.cell? ⟨b, off + i, none⟩ = some (.int .i64 e) := by
  obtain ⟨b, off, h1, h2, h3⟩ := h.form intKind_ok hn
  refine ⟨b, off, h1, h2, fun i e he => ?_⟩
  have := h3 i e he 0 (.int .i64 e) rfl
  simpa [intKind] using this
/-- An operation of a region is taken first; where its answer goes is named. -/
theorem takeH {P : Program} {ops : Array Oper} {Q : Exit → Act → World → Prop} {md : Region.Mode} {S : World → Prop} {i : Nat} {oi : Oper} (dd : Nat) {v : Value} {fuel : Nat} {listed : Array Bool} {a : Act} {w : World} (hi : ops[i]? = some oi) (hd : oi.dst = some dd)
    (hs : Region.noSelect ops = true) (hf : Region.free md ops listed i = true) (hr : (Region.ready md ops listed).contains i = true)
    (hQ : ∀ c a w, Q (.panic c) (a.put (some dd) v) w → Q (.panic c) a w) (hy : YieldsIf P ops S oi v a) (hS : S w)
    (h : wpAnyH P md ops Q S fuel (listed.setIfInBounds i true) (a.put (some dd) v) w) : wpAnyH P md ops Q S (fuel + 1) listed a w := by
  rw [← hd] at hQ h
  exact wpAnyH_take hi hs hf hr hQ hy hS h
set_option maxHeartbeats 4000000 in
set_option maxRecDepth 100000 in
theorem walNames_walk (ao : Option Addr) (m c : Nat) (zs : List Int) (w : World) (ht : Tab w) (hw : 0 < w.heap.size) (hs : RSrc intKind w ao m c zs) (hc : c ≤ maxLen) :
    Calls Tryz.prog 5 #[.slice ao m c] w fun e w' => e = .returned (.bool true) ∧ Below w.heap.size w w' := by
  have hcv := conv_const
  have ha := keep (awake_any w ht hw)
  have HT : Hid (∀ w', Below w.heap.size w w' → Tab w' ∧ 0 < w'.heap.size) := fun w' hb => ⟨ht.below hb hw, Nat.lt_of_lt_of_le hw hb.size⟩
  have HS := keep hs
  have hmc := hs.cap
  have hml : m ≤ 9223372036854775807 := by unfold maxLen at hc; omega
  clear ht hw hs hc hmc
  go_enter Tryz.func5, Tryz.ntmps5
  go_wp2_with fail
  refine ha.out.mono ?_
  rintro e w1 ⟨rfl, hb1⟩
  have B1 := keep hb1
  have hn := keep (new_mem 1099511627776 w1 (by omega))
  rw [show ((1099511627776 : Nat) : Int) = 1099511627776 from rfl] at hn
  clear ha hb1
  go_wp2_with fail
  refine hn.out.mono ?_
  rintro e w2 ⟨b, S, rfl, hm, hS, hb, hbel⟩
  have O2 : Hid (Own Noone w S w2 b ⟨1099511627776, [], 0, none, false⟩) := ⟨hm, fun g hg => .inr (Nat.le_trans B1.out.size (hS g hg)), .inr (Nat.le_trans B1.out.size hb), Kept.of_below (B1.out.trans (hbel.mono B1.out.size))⟩
  clear hm hS hbel hn hb
  go_wp2_with fail
  go_loopw [6, 7] (fun n i wr => ∃ (t nn : Nat) (S : Nat → Prop) (d : Disk), t ≤ 20 ∧ i = .int .i64 (t : Int) ∧ n = .int .i64 (nn : Int) ∧ Hid (Own Noone w S wr b d) ∧ Hid (Segs d nn t)) (fun _ i _ => 20 - (intOf i).toNat)
  case atStart => exact ⟨0, 0, S, _, Nat.zero_le _, rfl, rfl, O2.out, Segs.new⟩
  case round =>
    clear O2 S
    obtain ⟨t, nn, S, d, ht, rfl, rfl, hO, hI⟩ := hrel
    have hnn : nn ≤ 2000 := by
      have h1 := hI.out.len
      have h2 := used_len d.files
      have h3 := hI.out.used
      omega
    by_cases hlt : t < m ∧ t < 20
    · obtain ⟨hlt1, hlt2⟩ := hlt
      obtain ⟨z, hz⟩ : ∃ z, zs[t]? = some z := ⟨zs[t]'(by have := HS.out.len; omega), List.getElem?_eq_getElem _⟩
      obtain ⟨ba, off, rfl, hbl, hat⟩ := int_at HS.out (by omega)
      have HC0 := keep (hat t z hz)
      have hc0 := below_cell hO.out.below HC0.out
      have j0 : (0 : Int) ≤ (t : Int) := by omega
      have j1 : (t : Int) < (m : Int) := by omega
      have j2 : (t : Int) < 20 := by omega
      have NA := keep (name_any z wr (HT.out wr hO.out.below).1)
      obtain ⟨N, hN⟩ : ∃ N, segName z = N := ⟨_, rfl⟩
      rw [hN] at NA
      have HN := keep hN
      have HNL : Hid (N.length ≤ 17) := by rw [← hN]; exact seg_len z
      clear hat hz hN hlt1 hlt2
      cases hsg : isSeg z with
      | true =>
        have hseg := keep hsg
        have hb := hsg
        simp only [isSeg, Bool.and_eq_true, decide_eq_true_eq] at hb
        obtain ⟨z0, z1⟩ := hb
        have HN17 : Hid (N.length = 17) := by rw [← HN.out]; exact segName_len hsg
        clear hsg
        go_wp2_with fail
        refine NA.out.mono ?_
        rintro e w3 ⟨rfl, hb3⟩
        have O3 := keep (hO.out.next hb3)
        have HA := keep (has_mem S b d N w3 O3.out.mem (by have := HNL.out; unfold maxLen; omega))
        obtain ⟨ag, hag⟩ : ∃ ag, (Dk.look d.files N).isSome = ag := ⟨_, rfl⟩
        rw [hag] at HA
        have HAG := keep hag
        clear hb3 NA hag
        go_wp2_with fail
        refine HA.out.mono ?_
        rintro e w4 ⟨rfl, hb4⟩
        have O4 := keep (O3.out.next hb4)
        have O5 := keep (O4.out.next ((Below.refl _ _).alloc (Nat.le_refl _) (.cells #[.int .u8 120] 5 (1, 2))))
        have AD := keep (add_own Noone w S (w4.alloc (.cells #[.int .u8 120] 5 (1, 2))) b d z (some ⟨w4.heap.size, 0, none⟩) 1 1 [120] O5.out (HT.out _ O5.out.below).1 (HT.out _ O5.out.below).2 (fun w' hb => (Src.block (l := [120]) (heap_alloc_new w4 _) rfl).below hb) (Nat.le_trans hI.out.done (by omega)))
        obtain ⟨d', hd', hG'⟩ := hI.out.add (by omega) hseg.out
        rw [hd'] at AD
        rw [HN.out, HAG.out] at hG'
        have G' := keep hG'
        clear hd' hG'
        have hc4 := below_cell O4.out.below HC0.out
        clear hb4 HA O3
        go_wp2_with fail
        refine AD.out.mono ?_
        rintro e w5 ⟨S5, rfl, hO5⟩
        have O6 := keep hO5
        have NB := keep (name_any z w5 (HT.out w5 O6.out.below).1)
        rw [HN.out] at NB
        have hc5 := below_cell O6.out.below HC0.out
        clear hO5 AD O4 O5
        
        rw [show ((0 : Nat) : Int) = 0 from rfl]
        go_wp2_with fail
        refine NB.out.mono ?_
        rintro e w6 ⟨rfl, hb6⟩
        have O7 := keep (O6.out.next hb6)
        clear hb6 NB O6
        have hN17 : N.length = 17 := HN17.out
        cases ag with
        | true =>
          go_wp2
          go_roundw
          case rel => exact ⟨t + 1, nn, S5, d', by omega, by first | rfl | go_num, rfl, O7, G'⟩
          case measure => simp [intOf]; omega
        | false =>
          have hnw : IntKind.i64.wrap ((nn : Int) + 1) = ((nn + 1 : Nat) : Int) := by rw [wrap_small _ (by omega) (by omega)]; omega
          go_wp2
          go_roundw
          case rel => exact ⟨t + 1, nn + 1, S5, d', by omega, by first | rfl | go_num, by first | rfl | go_num, O7, G'⟩
          case measure => simp [intOf]; omega
      | false =>
        have hseg := keep hsg
        have HN17 : Hid (N.length = 0) := by rw [← HN.out, segName_none hsg]; rfl
        have hb : z < 0 ∨ 1099511627776 < z := by
          rcases Int.lt_or_le z 0 with h | h
          · exact .inl h
          · refine .inr ?_
            rcases Int.lt_or_le 1099511627776 z with h2 | h2
            · exact h2
            · simp [isSeg, h, h2] at hsg
        clear hsg
        rcases hb with hb | hb
        · go_wp2_with fail
          refine NA.out.mono ?_
          rintro e w3 ⟨rfl, hb3⟩
          have O3 := keep (hO.out.next hb3)
          have HA := keep (has_mem S b d N w3 O3.out.mem (by have := HNL.out; unfold maxLen; omega))
          obtain ⟨ag, hag⟩ : ∃ ag, (Dk.look d.files N).isSome = ag := ⟨_, rfl⟩
          rw [hag] at HA
          have HAG := keep hag
          clear hb3 NA hag
          go_wp2_with fail
          refine HA.out.mono ?_
          rintro e w4 ⟨rfl, hb4⟩
          have O4 := keep (O3.out.next hb4)
          have O5 := keep (O4.out.next ((Below.refl _ _).alloc (Nat.le_refl _) (.cells #[.int .u8 120] 5 (1, 2))))
          have AD := keep (add_own Noone w S (w4.alloc (.cells #[.int .u8 120] 5 (1, 2))) b d z (some ⟨w4.heap.size, 0, none⟩) 1 1 [120] O5.out (HT.out _ O5.out.below).1 (HT.out _ O5.out.below).2 (fun w' hb => (Src.block (l := [120]) (heap_alloc_new w4 _) rfl).below hb) (Nat.le_trans hI.out.done (by omega)))
          rw [show walAdd d z [120] = (1, d) by unfold walAdd; rw [if_pos (.inl hseg.out)]] at AD
          have hc4 := below_cell O4.out.below HC0.out
          clear hb4 HA O3
          go_wp2_with fail
          refine AD.out.mono ?_
          rintro e w5 ⟨S5, rfl, hO5⟩
          have O6 := keep hO5
          have NB := keep (name_any z w5 (HT.out w5 O6.out.below).1)
          rw [HN.out] at NB
          have hc5 := below_cell O6.out.below HC0.out
          clear hO5 AD O4 O5
          
          rw [show ((1 : Nat) : Int) = 1 from rfl]
          go_wp2_with fail
          refine NB.out.mono ?_
          rintro e w6 ⟨rfl, hb6⟩
          have O7 := keep (O6.out.next hb6)
          clear hb6 NB O6
          have hN17 : N.length = 0 := HN17.out
          go_wp2
          go_roundw
          case rel => exact ⟨t + 1, nn, S5, d, by omega, by first | rfl | go_num, rfl, O7, hI.out.next⟩
          case measure => simp [intOf]; omega
        · have hb0 : 0 ≤ z := by omega
          go_wp2_with fail
          refine NA.out.mono ?_
          rintro e w3 ⟨rfl, hb3⟩
          have O3 := keep (hO.out.next hb3)
          have HA := keep (has_mem S b d N w3 O3.out.mem (by have := HNL.out; unfold maxLen; omega))
          obtain ⟨ag, hag⟩ : ∃ ag, (Dk.look d.files N).isSome = ag := ⟨_, rfl⟩
          rw [hag] at HA
          have HAG := keep hag
          clear hb3 NA hag
          go_wp2_with fail
          refine HA.out.mono ?_
          rintro e w4 ⟨rfl, hb4⟩
          have O4 := keep (O3.out.next hb4)
          have O5 := keep (O4.out.next ((Below.refl _ _).alloc (Nat.le_refl _) (.cells #[.int .u8 120] 5 (1, 2))))
          have AD := keep (add_own Noone w S (w4.alloc (.cells #[.int .u8 120] 5 (1, 2))) b d z (some ⟨w4.heap.size, 0, none⟩) 1 1 [120] O5.out (HT.out _ O5.out.below).1 (HT.out _ O5.out.below).2 (fun w' hb => (Src.block (l := [120]) (heap_alloc_new w4 _) rfl).below hb) (Nat.le_trans hI.out.done (by omega)))
          rw [show walAdd d z [120] = (1, d) by unfold walAdd; rw [if_pos (.inl hseg.out)]] at AD
          have hc4 := below_cell O4.out.below HC0.out
          clear hb4 HA O3
          go_wp2_with fail
          refine AD.out.mono ?_
          rintro e w5 ⟨S5, rfl, hO5⟩
          have O6 := keep hO5
          have NB := keep (name_any z w5 (HT.out w5 O6.out.below).1)
          rw [HN.out] at NB
          have hc5 := below_cell O6.out.below HC0.out
          clear hO5 AD O4 O5
          
          rw [show ((1 : Nat) : Int) = 1 from rfl]
          go_wp2_with fail
          refine NB.out.mono ?_
          rintro e w6 ⟨rfl, hb6⟩
          have O7 := keep (O6.out.next hb6)
          clear hb6 NB O6
          have hN17 : N.length = 0 := HN17.out
          go_wp2
          go_roundw
          case rel => exact ⟨t + 1, nn, S5, d, by omega, by first | rfl | go_num, rfl, O7, hI.out.next⟩
          case measure => simp [intOf]; omega
    · have hge : ¬ ((t : Int) < (m : Int) ∧ (t : Int) < 20) := by omega
      obtain ⟨ks, hks, hsg, hup⟩ := Segs.list hI.out.good.rising hI.out.names
      have hkl : ks.length = nn := by
        have := congrArg List.length hks
        rw [List.length_map, List.length_map, hI.out.len] at this
        omega
      have SG := keep (segments_mem S b d ks wr hO.out.mem (HT.out wr hO.out.below).1 (HT.out wr hO.out.below).2 hks hsg (by omega))
      rw [hkl] at SG
      have HKS := keep hks
      have HSG := keep hsg
      have HUP := keep hup
      have HKL := keep hkl
      clear hks hsg hup hkl
      rcases Nat.lt_or_ge t m with h1 | h1
      · have j1 : (t : Int) < (m : Int) := by omega
        have j2 : ¬ (t : Int) < 20 := by omega
        clear hge hlt
        go_wp2_with fail
        refine SG.out.mono ?_
        rintro e w3 ⟨a3, c3, rfl, hR3, hb3⟩
        have R3 := keep hR3
        have O3 := keep (hO.out.next hb3)
        clear hR3 hb3 SG
        go_wp2_with fail
        go_loopw [12] (fun i wq => ∃ (q : Nat), q ≤ nn ∧ i = .int .i64 (q : Int) ∧ Hid (Below w3.heap.size w3 wq)) (fun i _ => nn - (intOf i).toNat)
        case atStart => exact ⟨0, Nat.zero_le _, rfl, Below.refl _ _⟩
        case round =>
          obtain ⟨q, hq, rfl, hbq⟩ := hrel
          rcases Nat.lt_or_ge q nn with hqlt | hqge
          · obtain ⟨k, hk⟩ : ∃ k, ks[q]? = some k := ⟨ks[q]'(by have := HKL.out; omega), List.getElem?_eq_getElem _⟩
            have hsk := keep (HSG.out k (List.mem_of_getElem? hk))
            have hfile : (Dk.look d.files (segName k)).isSome = true := by
              have h4 : segName k ∈ d.files.map (·.name) := by rw [HKS.out]; exact List.mem_map.2 ⟨k, List.mem_of_getElem? hk, rfl⟩
              obtain ⟨f, hf, hfn⟩ := List.mem_map.1 h4
              have h5 := Dk.look_mem hI.out.good.rising hf
              rw [hfn] at h5
              rw [h5]; rfl
            obtain ⟨bi, off3, rfl, _, hat3⟩ := int_at R3.out (by omega)
            have HCQ := keep (hat3 q k hk)
            have cq := below_cell hbq.out HCQ.out
            have i0' : (0 : Int) ≤ (q : Int) := by omega
            have i1 : (q : Int) < (nn : Int) := by omega
            have BW := keep (O3.out.below.trans (hbq.out.mono O3.out.below.size))
            obtain ⟨N, hN⟩ : ∃ N, segName k = N := ⟨_, rfl⟩
            have hNl : N.length ≤ 17 := by rw [← hN]; exact seg_len k
            rw [hN] at hfile
            have NMq : Hid (∀ w', Below wr.heap.size wr w' → Calls Tryz.prog 9 #[.int .i64 k] w' fun e w'' => e = .returned (.string ⟨N.toArray⟩) ∧ Below wr.heap.size wr w'') := fun w' hb => by
              have h := name_any k w' (HT.out w' (BW.out.trans (hb.mono BW.out.size))).1
              rw [hN] at h
              refine h.mono ?_
              rintro e w'' ⟨rfl, hb'⟩
              exact ⟨rfl, hb.trans (hb'.mono hb.size)⟩
            have HMq : Hid (∀ w', Below wr.heap.size wr w' → Calls Tryz.prog 24 #[.pointer (some ⟨b, 0, none⟩), .string ⟨N.toArray⟩] w' fun e w'' => e = .returned (.bool true) ∧ Below wr.heap.size wr w'') := fun w' hb => by
              have h := has_mem S b d N w' (O3.out.mem.below (hbq.out.trans (hb.mono hbq.out.size))) (by unfold maxLen; omega)
              rw [hfile] at h
              refine h.mono ?_
              rintro e w'' ⟨rfl, hb'⟩
              exact ⟨rfl, hb.trans (hb'.mono hb.size)⟩
            have HK0 := keep hk
            clear hfile hN hNl hk
            rcases Nat.eq_zero_or_pos q with hq0 | hq0
            · have i4 : decide ((0 : Int) < (q : Int)) = false := decide_eq_false (by omega)
              have SC : Hid (∀ w', Below wr.heap.size wr w' → w'.cell? ⟨bi, off3 + q, none⟩ = some (.int .i64 k)) := fun w' hb => below_cell hb cq
              have HQ0 := keep hq0
              clear hq0
              go_wp2_with fail
              refine wp_region_held_drew (S := fun w' => w'.cell? ⟨bi, off3 + q, none⟩ = some (.int .i64 k)) (by kernel_rfl) (SC.out _ (Below.refl _ _).drew) (fun hHeld => ?_)
              refine takeH (i := 0) 91 (v := .int .i64 (q : Int)) rfl rfl (by kernel_rfl) (by kernel_rfl) (by kernel_rfl) (fun _ _ _ h => h) (Or.inl ⟨by rfl, ?_⟩) (by assumption) ?_
              · intro w' hSw'
                go_simp
              simp only [Act.put, List.setIfInBounds_toArray, List.set_cons_zero, List.set_cons_succ]
              refine takeH (i := 1) 92 (v := .bool false) rfl rfl (by kernel_rfl) (by kernel_rfl) (by kernel_rfl) (fun _ _ _ h => h) (Or.inl ⟨by rfl, ?_⟩) (by assumption) ?_
              · intro w' hSw'
                go_simp
                exact HQ0.out
              simp only [Act.put, List.setIfInBounds_toArray, List.set_cons_zero, List.set_cons_succ]
              refine takeH (i := 2) 93 (v := .bool false) rfl rfl (by kernel_rfl) (by kernel_rfl) (by kernel_rfl) (fun _ _ _ h => h) (Or.inl ⟨by rfl, ?_⟩) (by assumption) ?_
              · intro w' hSw'
                go_simp
              simp only [Act.put, List.setIfInBounds_toArray, List.set_cons_zero, List.set_cons_succ]
              refine takeH (i := 3) 94 (v := undef) rfl rfl (by kernel_rfl) (by kernel_rfl) (by kernel_rfl) (fun _ _ _ h => h) (Or.inr ⟨by rfl, rfl⟩) (by assumption) ?_
              simp only [Act.put, List.setIfInBounds_toArray, List.set_cons_zero, List.set_cons_succ]
              refine takeH (i := 4) 95 (v := undef) rfl rfl (by kernel_rfl) (by kernel_rfl) (by kernel_rfl) (fun _ _ _ h => h) (Or.inr ⟨by rfl, rfl⟩) (by assumption) ?_
              simp only [Act.put, List.setIfInBounds_toArray, List.set_cons_zero, List.set_cons_succ]
              refine takeH (i := 5) 96 (v := undef) rfl rfl (by kernel_rfl) (by kernel_rfl) (by kernel_rfl) (fun _ _ _ h => h) (Or.inr ⟨by rfl, rfl⟩) (by assumption) ?_
              simp only [Act.put, List.setIfInBounds_toArray, List.set_cons_zero, List.set_cons_succ]
              refine takeH (i := 6) 97 (v := undef) rfl rfl (by kernel_rfl) (by kernel_rfl) (by kernel_rfl) (fun _ _ _ h => h) (Or.inr ⟨by rfl, rfl⟩) (by assumption) ?_
              simp only [Act.put, List.setIfInBounds_toArray, List.set_cons_zero, List.set_cons_succ]
              refine takeH (i := 7) 98 (v := undef) rfl rfl (by kernel_rfl) (by kernel_rfl) (by kernel_rfl) (fun _ _ _ h => h) (Or.inr ⟨by rfl, rfl⟩) (by assumption) ?_
              simp only [Act.put, List.setIfInBounds_toArray, List.set_cons_zero, List.set_cons_succ]
              refine takeH (i := 8) 99 (v := undef) rfl rfl (by kernel_rfl) (by kernel_rfl) (by kernel_rfl) (fun _ _ _ h => h) (Or.inr ⟨by rfl, rfl⟩) (by assumption) ?_
              simp only [Act.put, List.setIfInBounds_toArray, List.set_cons_zero, List.set_cons_succ]
              refine takeH (i := 9) 100 (v := undef) rfl rfl (by kernel_rfl) (by kernel_rfl) (by kernel_rfl) (fun _ _ _ h => h) (Or.inr ⟨by rfl, rfl⟩) (by assumption) ?_
              simp only [Act.put, List.setIfInBounds_toArray, List.set_cons_zero, List.set_cons_succ]
              refine takeH (i := 10) 101 (v := undef) rfl rfl (by kernel_rfl) (by kernel_rfl) (by kernel_rfl) (fun _ _ _ h => h) (Or.inr ⟨by rfl, rfl⟩) (by assumption) ?_
              simp only [Act.put, List.setIfInBounds_toArray, List.set_cons_zero, List.set_cons_succ]
              refine takeH (i := 11) 102 (v := undef) rfl rfl (by kernel_rfl) (by kernel_rfl) (by kernel_rfl) (fun _ _ _ h => h) (Or.inr ⟨by rfl, rfl⟩) (by assumption) ?_
              simp only [Act.put, List.setIfInBounds_toArray, List.set_cons_zero, List.set_cons_succ]
              refine takeH (i := 12) 103 (v := undef) rfl rfl (by kernel_rfl) (by kernel_rfl) (by kernel_rfl) (fun _ _ _ h => h) (Or.inr ⟨by rfl, rfl⟩) (by assumption) ?_
              simp only [Act.put, List.setIfInBounds_toArray, List.set_cons_zero, List.set_cons_succ]
              refine takeH (i := 13) 104 (v := .bool false) rfl rfl (by kernel_rfl) (by kernel_rfl) (by kernel_rfl) (fun _ _ _ h => h) (Or.inl ⟨by rfl, ?_⟩) (by assumption) ?_
              · intro w' hSw'
                go_simp
              simp only [Act.put, List.setIfInBounds_toArray, List.set_cons_zero, List.set_cons_succ]
              refine takeH (i := 14) 105 (v := .bool false) rfl rfl (by kernel_rfl) (by kernel_rfl) (by kernel_rfl) (fun _ _ _ h => h) (Or.inl ⟨by rfl, ?_⟩) (by assumption) ?_
              · intro w' hSw'
                go_simp
              simp only [Act.put, List.setIfInBounds_toArray, List.set_cons_zero, List.set_cons_succ]
              refine takeH (i := 15) 106 (v := .pointer (some ⟨b, 0, none⟩)) rfl rfl (by kernel_rfl) (by kernel_rfl) (by kernel_rfl) (fun _ _ _ h => h) (Or.inl ⟨by rfl, ?_⟩) (by assumption) ?_
              · intro w' hSw'
                go_simp
              simp only [Act.put, List.setIfInBounds_toArray, List.set_cons_zero, List.set_cons_succ]
              refine takeH (i := 16) 107 (v := .slice (some ⟨bi, off3, none⟩) nn c3) rfl rfl (by kernel_rfl) (by kernel_rfl) (by kernel_rfl) (fun _ _ _ h => h) (Or.inl ⟨by rfl, ?_⟩) (by assumption) ?_
              · intro w' hSw'
                go_simp
              simp only [Act.put, List.setIfInBounds_toArray, List.set_cons_zero, List.set_cons_succ]
              refine takeH (i := 17) 108 (v := .int .i64 (q : Int)) rfl rfl (by kernel_rfl) (by kernel_rfl) (by kernel_rfl) (fun _ _ _ h => h) (Or.inl ⟨by rfl, ?_⟩) (by assumption) ?_
              · intro w' hSw'
                go_simp
              simp only [Act.put, List.setIfInBounds_toArray, List.set_cons_zero, List.set_cons_succ]
              refine takeH (i := 18) 109 (v := .pointer (some ⟨bi, off3 + q, none⟩)) rfl rfl (by kernel_rfl) (by kernel_rfl) (by kernel_rfl) (fun _ _ _ h => h) (Or.inl ⟨by rfl, ?_⟩) (by assumption) ?_
              · intro w' hSw'
                go_simp
              simp only [Act.put, List.setIfInBounds_toArray, List.set_cons_zero, List.set_cons_succ]
              refine takeH (i := 19) 110 (v := .int .i64 k) rfl rfl (by kernel_rfl) (by kernel_rfl) (by kernel_rfl) (fun _ _ _ h => h) (Or.inl ⟨by rfl, ?_⟩) (by assumption) ?_
              · intro w' hSw'
                go_simp
              simp only [Act.put, List.setIfInBounds_toArray, List.set_cons_zero, List.set_cons_succ]
              refine wpAnyH_ready (rs := [20]) (by kernel_rfl) (by simp) ?_
              refine AllReadyH.cons rfl (fun K hK => ?_) AllReadyH.nil
              go_simp
              refine (NMq.out _ (Below.refl _ _).drew).mono ?_
              rintro e w7 ⟨rfl, hb7⟩
              have b7 := keep hb7
              clear hb7
              go_wp2_with fail
              refine hK.out _ _ (SC.out _ b7.out) (fun hHeld2 => ?_)
              clear hK K
              refine wpAnyH_ready (rs := [21]) (by kernel_rfl) (by simp) ?_
              refine AllReadyH.cons rfl (fun K hK => ?_) AllReadyH.nil
              go_simp
              refine (HMq.out _ b7.out).mono ?_
              rintro e w8 ⟨rfl, hb8⟩
              have b8 := keep hb8
              clear hb8
              go_wp2_with fail
              refine hK.out _ _ (SC.out _ b8.out) (fun hHeld3 => ?_)
              clear hK K
              refine takeH (i := 0x16) 113 (v := .bool false) rfl rfl (by kernel_rfl) (by kernel_rfl) (by kernel_rfl) (fun _ _ _ h => h) (Or.inl ⟨by rfl, ?_⟩) (by assumption) ?_
              · intro w' hSw'
                go_simp
              simp only [Act.put, List.setIfInBounds_toArray, List.set_cons_zero, List.set_cons_succ]
              refine takeH (i := 23) 114 (v := .bool false) rfl rfl (by kernel_rfl) (by kernel_rfl) (by kernel_rfl) (fun _ _ _ h => h) (Or.inl ⟨by rfl, ?_⟩) (by assumption) ?_
              · intro w' hSw'
                go_simp
              simp only [Act.put, List.setIfInBounds_toArray, List.set_cons_zero, List.set_cons_succ]
              refine wpAnyH_done (by kernel_rfl) ?_ _
              go_wp2
              go_roundw
              case rel => exact ⟨q + 1, by omega, by first | rfl | go_num, hbq.out.trans (b8.out.mono hbq.out.size)⟩
              case measure => simp [intOf]; omega
            · obtain ⟨j, hj⟩ : ∃ j, ks[q - 1]? = some j := ⟨ks[q - 1]'(by have := HKL.out; omega), List.getElem?_eq_getElem _⟩
              have hjk : j < k := by
                have hq' := HK0.out
                obtain ⟨l1, e1⟩ := List.getElem?_eq_some_iff.1 hj
                obtain ⟨l2, e2⟩ := List.getElem?_eq_some_iff.1 hq'
                have := List.pairwise_iff_getElem.1 HUP.out (q - 1) q l1 l2 (by omega)
                rw [e1, e2] at this
                exact this
              obtain ⟨q', hq'⟩ : ∃ q', q - 1 = q' := ⟨_, rfl⟩
              rw [hq'] at hj
              have HCP := keep (hat3 q' j hj)
              have cp := below_cell hbq.out HCP.out
              have iw : IntKind.i64.wrap ((q : Int) - 1) = (q' : Int) := by rw [wrap_small _ (by omega) (by omega)]; omega
              have i2 : (0 : Int) ≤ (q' : Int) := by omega
              have i3 : (q' : Int) < (nn : Int) := by omega
              have i4 : decide ((0 : Int) < (q : Int)) = true := decide_eq_true (by omega)
              have i5 : decide (k ≤ j) = false := decide_eq_false (by omega)
              have SC : Hid (∀ w', Below wr.heap.size wr w' → w'.cell? ⟨bi, off3 + q, none⟩ = some (.int .i64 k) ∧ w'.cell? ⟨bi, off3 + q', none⟩ = some (.int .i64 j)) := fun w' hb => ⟨below_cell hb cq, below_cell hb cp⟩
              have HQ' := keep hq'
              clear hj hq' hjk
              go_wp2_with fail
              go_region_held3 (fun w' => w'.cell? ⟨bi, off3 + q, none⟩ = some (.int .i64 k) ∧ w'.cell? ⟨bi, off3 + q', none⟩ = some (.int .i64 j))
                (first | exact SC.out _ (Below.refl _ _) | exact SC.out _ (Below.refl _ _).drew | exact SC.out _ b7.out | exact SC.out _ b7.out.drew | exact SC.out _ b8.out | exact SC.out _ b8.out.drew)
                (first
                  | (go_at_call 9; refine (NMq.out _ (by first | exact Below.refl _ _ | exact (Below.refl _ _).drew)).mono ?_; rintro e w7 ⟨rfl, hb7⟩; have b7 := keep hb7; clear hb7)
                  | (go_at_call 24; refine (HMq.out _ (by first | exact b7.out | exact b7.out.drew)).mono ?_; rintro e w8 ⟨rfl, hb8⟩; have b8 := keep hb8; clear hb8))
              go_wp2
              go_roundw
              case rel => exact ⟨q + 1, by omega, by first | rfl | go_num, hbq.out.trans (b8.out.mono hbq.out.size)⟩
              case measure => simp [intOf]; omega
          · obtain rfl : q = nn := by omega
            have BB := keep (O3.out.below.trans (hbq.out.mono O3.out.below.size))
            go_wp2
            go_ret
            exact ⟨rfl, BB.out⟩
      · have j1 : ¬ (t : Int) < (m : Int) := by omega
        clear hge hlt
        go_wp2_with fail
        refine SG.out.mono ?_
        rintro e w3 ⟨a3, c3, rfl, hR3, hb3⟩
        have R3 := keep hR3
        have O3 := keep (hO.out.next hb3)
        clear hR3 hb3 SG
        go_wp2_with fail
        go_loopw [12] (fun i wq => ∃ (q : Nat), q ≤ nn ∧ i = .int .i64 (q : Int) ∧ Hid (Below w3.heap.size w3 wq)) (fun i _ => nn - (intOf i).toNat)
        case atStart => exact ⟨0, Nat.zero_le _, rfl, Below.refl _ _⟩
        case round =>
          obtain ⟨q, hq, rfl, hbq⟩ := hrel
          rcases Nat.lt_or_ge q nn with hqlt | hqge
          · obtain ⟨k, hk⟩ : ∃ k, ks[q]? = some k := ⟨ks[q]'(by have := HKL.out; omega), List.getElem?_eq_getElem _⟩
            have hsk := keep (HSG.out k (List.mem_of_getElem? hk))
            have hfile : (Dk.look d.files (segName k)).isSome = true := by
              have h4 : segName k ∈ d.files.map (·.name) := by rw [HKS.out]; exact List.mem_map.2 ⟨k, List.mem_of_getElem? hk, rfl⟩
              obtain ⟨f, hf, hfn⟩ := List.mem_map.1 h4
              have h5 := Dk.look_mem hI.out.good.rising hf
              rw [hfn] at h5
              rw [h5]; rfl
            obtain ⟨bi, off3, rfl, _, hat3⟩ := int_at R3.out (by omega)
            have HCQ := keep (hat3 q k hk)
            have cq := below_cell hbq.out HCQ.out
            have i0' : (0 : Int) ≤ (q : Int) := by omega
            have i1 : (q : Int) < (nn : Int) := by omega
            have BW := keep (O3.out.below.trans (hbq.out.mono O3.out.below.size))
            obtain ⟨N, hN⟩ : ∃ N, segName k = N := ⟨_, rfl⟩
            have hNl : N.length ≤ 17 := by rw [← hN]; exact seg_len k
            rw [hN] at hfile
            have NMq : Hid (∀ w', Below wr.heap.size wr w' → Calls Tryz.prog 9 #[.int .i64 k] w' fun e w'' => e = .returned (.string ⟨N.toArray⟩) ∧ Below wr.heap.size wr w'') := fun w' hb => by
              have h := name_any k w' (HT.out w' (BW.out.trans (hb.mono BW.out.size))).1
              rw [hN] at h
              refine h.mono ?_
              rintro e w'' ⟨rfl, hb'⟩
              exact ⟨rfl, hb.trans (hb'.mono hb.size)⟩
            have HMq : Hid (∀ w', Below wr.heap.size wr w' → Calls Tryz.prog 24 #[.pointer (some ⟨b, 0, none⟩), .string ⟨N.toArray⟩] w' fun e w'' => e = .returned (.bool true) ∧ Below wr.heap.size wr w'') := fun w' hb => by
              have h := has_mem S b d N w' (O3.out.mem.below (hbq.out.trans (hb.mono hbq.out.size))) (by unfold maxLen; omega)
              rw [hfile] at h
              refine h.mono ?_
              rintro e w'' ⟨rfl, hb'⟩
              exact ⟨rfl, hb.trans (hb'.mono hb.size)⟩
            have HK0 := keep hk
            clear hfile hN hNl hk
            rcases Nat.eq_zero_or_pos q with hq0 | hq0
            · have i4 : decide ((0 : Int) < (q : Int)) = false := decide_eq_false (by omega)
              have SC : Hid (∀ w', Below wr.heap.size wr w' → w'.cell? ⟨bi, off3 + q, none⟩ = some (.int .i64 k)) := fun w' hb => below_cell hb cq
              have HQ0 := keep hq0
              clear hq0
              go_wp2_with fail
              refine wp_region_held_drew (S := fun w' => w'.cell? ⟨bi, off3 + q, none⟩ = some (.int .i64 k)) (by kernel_rfl) (SC.out _ (Below.refl _ _).drew) (fun hHeld => ?_)
              refine takeH (i := 0) 91 (v := .int .i64 (q : Int)) rfl rfl (by kernel_rfl) (by kernel_rfl) (by kernel_rfl) (fun _ _ _ h => h) (Or.inl ⟨by rfl, ?_⟩) (by assumption) ?_
              · intro w' hSw'
                go_simp
              simp only [Act.put, List.setIfInBounds_toArray, List.set_cons_zero, List.set_cons_succ]
              refine takeH (i := 1) 92 (v := .bool false) rfl rfl (by kernel_rfl) (by kernel_rfl) (by kernel_rfl) (fun _ _ _ h => h) (Or.inl ⟨by rfl, ?_⟩) (by assumption) ?_
              · intro w' hSw'
                go_simp
                exact HQ0.out
              simp only [Act.put, List.setIfInBounds_toArray, List.set_cons_zero, List.set_cons_succ]
              refine takeH (i := 2) 93 (v := .bool false) rfl rfl (by kernel_rfl) (by kernel_rfl) (by kernel_rfl) (fun _ _ _ h => h) (Or.inl ⟨by rfl, ?_⟩) (by assumption) ?_
              · intro w' hSw'
                go_simp
              simp only [Act.put, List.setIfInBounds_toArray, List.set_cons_zero, List.set_cons_succ]
              refine takeH (i := 3) 94 (v := undef) rfl rfl (by kernel_rfl) (by kernel_rfl) (by kernel_rfl) (fun _ _ _ h => h) (Or.inr ⟨by rfl, rfl⟩) (by assumption) ?_
              simp only [Act.put, List.setIfInBounds_toArray, List.set_cons_zero, List.set_cons_succ]
              refine takeH (i := 4) 95 (v := undef) rfl rfl (by kernel_rfl) (by kernel_rfl) (by kernel_rfl) (fun _ _ _ h => h) (Or.inr ⟨by rfl, rfl⟩) (by assumption) ?_
              simp only [Act.put, List.setIfInBounds_toArray, List.set_cons_zero, List.set_cons_succ]
              refine takeH (i := 5) 96 (v := undef) rfl rfl (by kernel_rfl) (by kernel_rfl) (by kernel_rfl) (fun _ _ _ h => h) (Or.inr ⟨by rfl, rfl⟩) (by assumption) ?_
              simp only [Act.put, List.setIfInBounds_toArray, List.set_cons_zero, List.set_cons_succ]
              refine takeH (i := 6) 97 (v := undef) rfl rfl (by kernel_rfl) (by kernel_rfl) (by kernel_rfl) (fun _ _ _ h => h) (Or.inr ⟨by rfl, rfl⟩) (by assumption) ?_
              simp only [Act.put, List.setIfInBounds_toArray, List.set_cons_zero, List.set_cons_succ]
              refine takeH (i := 7) 98 (v := undef) rfl rfl (by kernel_rfl) (by kernel_rfl) (by kernel_rfl) (fun _ _ _ h => h) (Or.inr ⟨by rfl, rfl⟩) (by assumption) ?_
              simp only [Act.put, List.setIfInBounds_toArray, List.set_cons_zero, List.set_cons_succ]
              refine takeH (i := 8) 99 (v := undef) rfl rfl (by kernel_rfl) (by kernel_rfl) (by kernel_rfl) (fun _ _ _ h => h) (Or.inr ⟨by rfl, rfl⟩) (by assumption) ?_
              simp only [Act.put, List.setIfInBounds_toArray, List.set_cons_zero, List.set_cons_succ]
              refine takeH (i := 9) 100 (v := undef) rfl rfl (by kernel_rfl) (by kernel_rfl) (by kernel_rfl) (fun _ _ _ h => h) (Or.inr ⟨by rfl, rfl⟩) (by assumption) ?_
              simp only [Act.put, List.setIfInBounds_toArray, List.set_cons_zero, List.set_cons_succ]
              refine takeH (i := 10) 101 (v := undef) rfl rfl (by kernel_rfl) (by kernel_rfl) (by kernel_rfl) (fun _ _ _ h => h) (Or.inr ⟨by rfl, rfl⟩) (by assumption) ?_
              simp only [Act.put, List.setIfInBounds_toArray, List.set_cons_zero, List.set_cons_succ]
              refine takeH (i := 11) 102 (v := undef) rfl rfl (by kernel_rfl) (by kernel_rfl) (by kernel_rfl) (fun _ _ _ h => h) (Or.inr ⟨by rfl, rfl⟩) (by assumption) ?_
              simp only [Act.put, List.setIfInBounds_toArray, List.set_cons_zero, List.set_cons_succ]
              refine takeH (i := 12) 103 (v := undef) rfl rfl (by kernel_rfl) (by kernel_rfl) (by kernel_rfl) (fun _ _ _ h => h) (Or.inr ⟨by rfl, rfl⟩) (by assumption) ?_
              simp only [Act.put, List.setIfInBounds_toArray, List.set_cons_zero, List.set_cons_succ]
              refine takeH (i := 13) 104 (v := .bool false) rfl rfl (by kernel_rfl) (by kernel_rfl) (by kernel_rfl) (fun _ _ _ h => h) (Or.inl ⟨by rfl, ?_⟩) (by assumption) ?_
              · intro w' hSw'
                go_simp
              simp only [Act.put, List.setIfInBounds_toArray, List.set_cons_zero, List.set_cons_succ]
              refine takeH (i := 14) 105 (v := .bool false) rfl rfl (by kernel_rfl) (by kernel_rfl) (by kernel_rfl) (fun _ _ _ h => h) (Or.inl ⟨by rfl, ?_⟩) (by assumption) ?_
              · intro w' hSw'
                go_simp
              simp only [Act.put, List.setIfInBounds_toArray, List.set_cons_zero, List.set_cons_succ]
              refine takeH (i := 15) 106 (v := .pointer (some ⟨b, 0, none⟩)) rfl rfl (by kernel_rfl) (by kernel_rfl) (by kernel_rfl) (fun _ _ _ h => h) (Or.inl ⟨by rfl, ?_⟩) (by assumption) ?_
              · intro w' hSw'
                go_simp
              simp only [Act.put, List.setIfInBounds_toArray, List.set_cons_zero, List.set_cons_succ]
              refine takeH (i := 16) 107 (v := .slice (some ⟨bi, off3, none⟩) nn c3) rfl rfl (by kernel_rfl) (by kernel_rfl) (by kernel_rfl) (fun _ _ _ h => h) (Or.inl ⟨by rfl, ?_⟩) (by assumption) ?_
              · intro w' hSw'
                go_simp
              simp only [Act.put, List.setIfInBounds_toArray, List.set_cons_zero, List.set_cons_succ]
              refine takeH (i := 17) 108 (v := .int .i64 (q : Int)) rfl rfl (by kernel_rfl) (by kernel_rfl) (by kernel_rfl) (fun _ _ _ h => h) (Or.inl ⟨by rfl, ?_⟩) (by assumption) ?_
              · intro w' hSw'
                go_simp
              simp only [Act.put, List.setIfInBounds_toArray, List.set_cons_zero, List.set_cons_succ]
              refine takeH (i := 18) 109 (v := .pointer (some ⟨bi, off3 + q, none⟩)) rfl rfl (by kernel_rfl) (by kernel_rfl) (by kernel_rfl) (fun _ _ _ h => h) (Or.inl ⟨by rfl, ?_⟩) (by assumption) ?_
              · intro w' hSw'
                go_simp
              simp only [Act.put, List.setIfInBounds_toArray, List.set_cons_zero, List.set_cons_succ]
              refine takeH (i := 19) 110 (v := .int .i64 k) rfl rfl (by kernel_rfl) (by kernel_rfl) (by kernel_rfl) (fun _ _ _ h => h) (Or.inl ⟨by rfl, ?_⟩) (by assumption) ?_
              · intro w' hSw'
                go_simp
              simp only [Act.put, List.setIfInBounds_toArray, List.set_cons_zero, List.set_cons_succ]
              refine wpAnyH_ready (rs := [20]) (by kernel_rfl) (by simp) ?_
              refine AllReadyH.cons rfl (fun K hK => ?_) AllReadyH.nil
              go_simp
              refine (NMq.out _ (Below.refl _ _).drew).mono ?_
              rintro e w7 ⟨rfl, hb7⟩
              have b7 := keep hb7
              clear hb7
              go_wp2_with fail
              refine hK.out _ _ (SC.out _ b7.out) (fun hHeld2 => ?_)
              clear hK K
              refine wpAnyH_ready (rs := [21]) (by kernel_rfl) (by simp) ?_
              refine AllReadyH.cons rfl (fun K hK => ?_) AllReadyH.nil
              go_simp
              refine (HMq.out _ b7.out).mono ?_
              rintro e w8 ⟨rfl, hb8⟩
              have b8 := keep hb8
              clear hb8
              go_wp2_with fail
              refine hK.out _ _ (SC.out _ b8.out) (fun hHeld3 => ?_)
              clear hK K
              refine takeH (i := 0x16) 113 (v := .bool false) rfl rfl (by kernel_rfl) (by kernel_rfl) (by kernel_rfl) (fun _ _ _ h => h) (Or.inl ⟨by rfl, ?_⟩) (by assumption) ?_
              · intro w' hSw'
                go_simp
              simp only [Act.put, List.setIfInBounds_toArray, List.set_cons_zero, List.set_cons_succ]
              refine takeH (i := 23) 114 (v := .bool false) rfl rfl (by kernel_rfl) (by kernel_rfl) (by kernel_rfl) (fun _ _ _ h => h) (Or.inl ⟨by rfl, ?_⟩) (by assumption) ?_
              · intro w' hSw'
                go_simp
              simp only [Act.put, List.setIfInBounds_toArray, List.set_cons_zero, List.set_cons_succ]
              refine wpAnyH_done (by kernel_rfl) ?_ _
              go_wp2
              go_roundw
              case rel => exact ⟨q + 1, by omega, by first | rfl | go_num, hbq.out.trans (b8.out.mono hbq.out.size)⟩
              case measure => simp [intOf]; omega
            · obtain ⟨j, hj⟩ : ∃ j, ks[q - 1]? = some j := ⟨ks[q - 1]'(by have := HKL.out; omega), List.getElem?_eq_getElem _⟩
              have hjk : j < k := by
                have hq' := HK0.out
                obtain ⟨l1, e1⟩ := List.getElem?_eq_some_iff.1 hj
                obtain ⟨l2, e2⟩ := List.getElem?_eq_some_iff.1 hq'
                have := List.pairwise_iff_getElem.1 HUP.out (q - 1) q l1 l2 (by omega)
                rw [e1, e2] at this
                exact this
              obtain ⟨q', hq'⟩ : ∃ q', q - 1 = q' := ⟨_, rfl⟩
              rw [hq'] at hj
              have HCP := keep (hat3 q' j hj)
              have cp := below_cell hbq.out HCP.out
              have iw : IntKind.i64.wrap ((q : Int) - 1) = (q' : Int) := by rw [wrap_small _ (by omega) (by omega)]; omega
              have i2 : (0 : Int) ≤ (q' : Int) := by omega
              have i3 : (q' : Int) < (nn : Int) := by omega
              have i4 : decide ((0 : Int) < (q : Int)) = true := decide_eq_true (by omega)
              have i5 : decide (k ≤ j) = false := decide_eq_false (by omega)
              have SC : Hid (∀ w', Below wr.heap.size wr w' → w'.cell? ⟨bi, off3 + q, none⟩ = some (.int .i64 k) ∧ w'.cell? ⟨bi, off3 + q', none⟩ = some (.int .i64 j)) := fun w' hb => ⟨below_cell hb cq, below_cell hb cp⟩
              have HQ' := keep hq'
              clear hj hq' hjk
              go_wp2_with fail
              go_region_held3 (fun w' => w'.cell? ⟨bi, off3 + q, none⟩ = some (.int .i64 k) ∧ w'.cell? ⟨bi, off3 + q', none⟩ = some (.int .i64 j))
                (first | exact SC.out _ (Below.refl _ _) | exact SC.out _ (Below.refl _ _).drew | exact SC.out _ b7.out | exact SC.out _ b7.out.drew | exact SC.out _ b8.out | exact SC.out _ b8.out.drew)
                (first
                  | (go_at_call 9; refine (NMq.out _ (by first | exact Below.refl _ _ | exact (Below.refl _ _).drew)).mono ?_; rintro e w7 ⟨rfl, hb7⟩; have b7 := keep hb7; clear hb7)
                  | (go_at_call 24; refine (HMq.out _ (by first | exact b7.out | exact b7.out.drew)).mono ?_; rintro e w8 ⟨rfl, hb8⟩; have b8 := keep hb8; clear hb8))
              go_wp2
              go_roundw
              case rel => exact ⟨q + 1, by omega, by first | rfl | go_num, hbq.out.trans (b8.out.mono hbq.out.size)⟩
              case measure => simp [intOf]; omega
          · obtain rfl : q = nn := by omega
            have BB := keep (O3.out.below.trans (hbq.out.mono O3.out.below.size))
            go_wp2
            go_ret
            exact ⟨rfl, BB.out⟩
end Go.Proofs.YtohnfogdalnilaaGreatDoor
