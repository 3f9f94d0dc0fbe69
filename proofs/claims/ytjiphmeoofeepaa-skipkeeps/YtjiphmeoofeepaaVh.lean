/- The walks of skip's seek and first, as Scan asks them. -/
import Derived.Test.YtjiphmeoofeepaaVb
namespace Go.Proofs.Ytjiphmeoofeepaa
open Go.RowKit
open Sk (Ent)

set_option maxHeartbeats 4000000 in
set_option maxRecDepth 100000 in
theorem seek_one (p1 b : Nat) (ns : List Nd) (P : Ent → Bool) (k : Nat) (w : World) (hC : Chain w b ns) (hk : Sk.Cut P (ns.map (·.x.e)) k)
    (hF : ∀ w' x, Below w.heap.size w w' → entKind.held w' x → Calls Try.prog 26 #[ev x, .pointer (some ⟨p1, 0, none⟩)] w' fun e w'' => e = .returned (.bool (P x.e)) ∧ Below w'.heap.size w' w'') :
    Calls Try.prog 17 #[.pointer (some ⟨b, 0, none⟩), .func (.func 26) #[] #[.pointer (some ⟨p1, 0, none⟩)]] w fun e w' => ∃ c : Array Value, e = .returned (.agg c) ∧ c.size = 12 ∧ (∀ j, j < 12 → c[j]? = some (ptr (blk b ns (lastAt ns j k)))) ∧ Below w.heap.size w w' := by
  have HC := keep hC
  have HCUT := keep hk
  have HF := keep hF
  clear hC hk hF
  obtain ⟨W1, hW1⟩ : ∃ W1, (w.alloc (.cells nils 47)).alloc (.cells nils 47) = W1 := ⟨_, rfl⟩
  have b1 : Hid (Below w.heap.size w W1) := by rw [← hW1]; exact ((Below.refl _ _).alloc (Nat.le_refl _) _).alloc (by simp) _
  have g0 : Hid (W1.heap[w.heap.size]? = some (.cells nils 47)) := by
    rw [← hW1]; exact (Below.heap_alloc _ _ _ (by simp)).trans (heap_alloc_new w _)
  have g1 : Hid (W1.heap[w.heap.size + 1]? = some (.cells nils 47)) := by
    have := heap_alloc_new (w.alloc (.cells nils 47)) (.cells nils 47)
    rw [World.size_alloc] at this
    rw [← hW1]; exact this
  have S0 : Hid (Seek w b ns k (w.heap.size + 1) w.heap.size 12 W1) := ⟨b1.out, ⟨nils, g1.out, rfl, fun j h1 h2 => absurd h2 (by omega)⟩, g0.out⟩
  unfold nils at hW1
  go_enter Try.func17, Try.ntmps17
  go_wp2_with fail
  clear hW1 b1 g0 g1
  go_loopw [6, 7] (fun p i wr => ∃ (l q : Nat), l ≤ 12 ∧ i = .int .i64 ((l : Int) - 1) ∧ p = .pointer (some ⟨blk b ns q, 0, none⟩) ∧ q ≤ k ∧ Hid (Seek w b ns k (w.heap.size + 1) w.heap.size l wr ∧ high ns (l - 1) q)) (fun _ i _ => ((intOf i) + 1).toNat)
  case atStart => exact ⟨12, 0, Nat.le_refl _, by first | rfl | go_num, rfl, Nat.zero_le _, S0.out, trivial⟩
  case round =>
    clear S0
    obtain ⟨l, q, hl, rfl, rfl, hqk, hI⟩ := hrel
    cases l with
    | zero =>
      rw [show ((0 : Nat) : Int) - 1 = -1 from rfl]
      obtain ⟨c, hc1, hc2, hc3⟩ := hI.out.1.arr
      have RA : Hid (wr.rangeAt (w.heap.size + 1) 0 c.toList) := fun j v hv => by
        rw [Nat.zero_add, cell_of_row _ _ _ _ _ _ hc1]
        simpa using hv
      have CL : Hid (c.toList.length = 12) := by show _ = _; simpa using hc2
      have TH : Hid (wr.there w.heap.size 0 c.toList.toArray.size) := fun j hj => by
        have hj' : j < 12 := by simpa [hc2] using hj
        refine ⟨?_, by simp [World.frozen?, hI.out.1.res]⟩
        rw [Nat.zero_add, cell_of_row _ _ _ _ _ _ hI.out.1.res]
        have : j < nils.size := hj'
        rw [Array.getElem?_eq_getElem this]
        rfl
      have ON : Hid (c.toList.toArray.all (·.oneCell') = true) := all_oneCell_toArray (fun v hv => by
        obtain ⟨j, hj⟩ := List.getElem?_of_mem hv
        have hj2 : c[j]? = some v := by simpa using hj
        have hj3 : j < 12 := by have := (Array.getElem?_eq_some_iff.1 hj2).1; omega
        rw [hc3 j (Nat.zero_le _) hj3] at hj2
        cases hj2
        rfl)
      have BL := keep hI.out.1.bel
      have C2 := keep hc2
      have C3 := keep hc3
      have C1 := keep hc1
      clear hc1 hc2 hc3 hI
      go_wp2_with (first
        | (refine wpList_load_mid rfl _ _ rfl _ _ rfl c.toList _ RA.out Try.underlying47 rfl (by rw [infoA, CL.out]) ?_)
        | (refine wpList_store_mid rfl _ _ _ rfl _ _ c.toList.toArray rfl rfl TH.out (by rw [infoA]; simp [C2.out]) ON.out ?_))
      have LV := run_loadVar_mid (P := Try.prog) (wr.setCells w.heap.size 0 c.toList.toArray.toList) w.heap.size 0 47 c.toList.toArray.toList _ (World.rangeAt_setCells_same _ _ _ _ (by simpa using TH.out)) Try.underlying47 rfl (by rw [infoA]; simp [C2.out])
      refine ⟨rfl, .agg c, ?_, c, rfl, C2.out, fun j hj => C3.out j (Nat.zero_le _) hj, below_setCells BL.out (Nat.le_refl _) _ _⟩
      have e2 : c.toList.toArray.toList = c.toList := by simp
      rw [e2, Array.toArray_toList] at LV
      rw [results_cell (p := 4) (ty := 47) rfl]
      exact LV
    | succ i =>
      have e1 : ((i + 1 : Nat) : Int) - 1 = (i : Int) := by omega
      rw [e1]
      have i0 : (0 : Int) ≤ (i : Int) := by omega
      have i12 : (i : Int) < 12 := by omega
      clear e1
      have HI12 : Hid (i < 12) := by show _ < _; omega
      go_wp2_with fail
      go_loopg [6] (k - q) (fun n p wq => ∃ (q : Nat), n = k - q ∧ p = .pointer (some ⟨blk b ns q, 0, none⟩) ∧ q ≤ k ∧ Hid (Seek w b ns k (w.heap.size + 1) w.heap.size (i + 1) wq ∧ high ns i q))
      case atStart => exact ⟨q, rfl, rfl, hqk, hI.out.1, hI.out.2⟩
      case round =>
        clear hI hqk
        obtain ⟨s, hgk, rfl, hsk, hJ⟩ := hrel
        have c0 := (HC.out.below hJ.out.1.bel).at_ hJ.out.2 HI12.out
        have HGK := keep hgk
        have HSK := keep hsk
        clear hgk hsk
        cases hx : nxtAt (ns.drop s) i with
        | none =>
          obtain ⟨hn1, hn2⟩ := nxt_none hx
          rw [hn1] at c0
          have hlast : Hid (lastAt ns i k = s) := lastAt_eq hJ.out.2 HSK.out (fun j m h1 h2 h3 => hn2 m (List.mem_of_getElem? (i := j - s) (by rw [List.getElem?_drop]; rw [show s + (j - s) = j by omega]; exact h3)))
          clear hx hn1 hn2
          obtain ⟨B, hB⟩ : ∃ B, blk b ns s = B := ⟨_, rfl⟩
          rw [hB] at c0 ⊢
          have HB := keep hB
          clear hB
          obtain ⟨⟨v0, f0⟩, f1, S3⟩ := hJ.out.1.lay (by omega) HI12.out hlast.out
          have S4 := keep S3
          rw [HB.out] at S4
          unfold ptr at S4
          have hw1 : IntKind.i64.wrap ((i : Int) - 1) = (i : Int) - 1 := wrap_small _ (by omega) (by omega)
          clear S3
          go_wp2
          go_roundw
          case rel => exact ⟨i, s, by omega, by first | rfl | go_num, by rw [HB.out], HSK.out, S4.out, high_less hJ.out.2 (by omega)⟩
          case measure => simp [intOf] <;> omega
        | some r =>
          obtain ⟨n, hn1, hn2, hn3, hn4⟩ := nxt_some hx
          rw [hn3] at c0
          rw [List.getElem?_drop] at hn1
          have hent := (HC.out.below hJ.out.1.bel).ents n (List.mem_of_getElem? hn1)
          have hcut := HCUT.out.2 (s + r) n.x.e (by rw [List.getElem?_map, hn1]; rfl)
          have FC := keep (HF.out wr n.x hJ.out.1.bel hent.2)
          obtain ⟨ng, nx, nh⟩ := n
          obtain ⟨xkp, xkc, xvp, xvc, xkey, xseq, xgone, xval⟩ := nx
          have q0 : wr.cell? ⟨ng, 0, none⟩ = some (.slice xkp xkey.length xkc) := hent.1 0 _ rfl
          have q1 : wr.cell? ⟨ng, 1, none⟩ = some (.int .i64 xseq) := hent.1 1 _ rfl
          have q2 : wr.cell? ⟨ng, 2, none⟩ = some (.bool xgone) := hent.1 2 _ rfl
          have q3 : wr.cell? ⟨ng, 3, none⟩ = some (.slice xvp xval.length xvc) := hent.1 3 _ rfl
          have HN1 := keep hn1
          have HN2 : Hid (i < nh) := hn2
          have HN4 := keep hn4
          obtain ⟨B, hB⟩ : ∃ B, blk b ns s = B := ⟨_, rfl⟩
          rw [hB] at c0 ⊢
          have HB := keep hB
          unfold ev at FC
          simp only at FC hcut c0
          clear hx hn1 hn2 hn3 hn4 hent hB
          cases hP : P ⟨xkey, xseq, xgone, xval⟩ with
          | true =>
            have hlt := hcut.1 hP
            rw [hP] at FC
            have HLT := keep hlt
            clear hP hcut hlt
            go_wp2_with fail
            refine FC.out.mono ?_
            rintro e w2 ⟨rfl, hb2⟩
            have S2 := keep (hJ.out.1.next hb2)
            have c2 := below_cell hb2 c0
            clear hb2 FC q0 q1 q2 q3 c0
            go_wp2
            go_roundg (k - (s + r + 1))
            case measure => have := HGK.out; have := HLT.out; have := HSK.out; omega
            case rel => exact ⟨s + r + 1, rfl, by simp only [blk, HN1.out], HLT.out, S2.out, ⟨⟨ng, ⟨xkp, xkc, xvp, xvc, ⟨xkey, xseq, xgone, xval⟩⟩, nh⟩, HN1.out, HN2.out⟩⟩
          | false =>
            have hge : ¬ s + r < k := fun h => by have := hcut.2 h; rw [hP] at this; cases this
            rw [hP] at FC
            have hlast : Hid (lastAt ns i k = s) := lastAt_eq hJ.out.2 HSK.out (fun j m h1 h2 h3 => HN4.out (j - s) m (by omega) (by rw [List.getElem?_drop]; rw [show s + (j - s) = j by omega]; exact h3))
            clear hP hcut hge
            go_wp2_with fail
            refine FC.out.mono ?_
            rintro e w2 ⟨rfl, hb2⟩
            have S2 := keep (hJ.out.1.next hb2)
            clear hb2 FC q0 q1 q2 q3 c0
            obtain ⟨⟨v0, f0⟩, f1, S3⟩ := S2.out.lay (by omega) HI12.out hlast.out
            have S4 := keep S3
            rw [HB.out] at S4
            unfold ptr at S4
            have hw1 : IntKind.i64.wrap ((i : Int) - 1) = (i : Int) - 1 := wrap_small _ (by omega) (by omega)
            clear S3
            go_wp2
            go_roundw
            case rel => exact ⟨i, s, by omega, by first | rfl | go_num, by rw [HB.out], HSK.out, S4.out, high_less hJ.out.2 (by omega)⟩
            case measure => simp [intOf] <;> omega
set_option maxHeartbeats 1000000 in
set_option maxRecDepth 100000 in
theorem first_one (p1 b : Nat) (ns : List Nd) (P : Ent → Bool) (k : Nat) (w : World) (hC : Chain w b ns) (ht : Tall ns) (hk : Sk.Cut P (ns.map (·.x.e)) k)
    (hF : ∀ w' x, Below w.heap.size w w' → entKind.held w' x → Calls Try.prog 26 #[ev x, .pointer (some ⟨p1, 0, none⟩)] w' fun e w'' => e = .returned (.bool (P x.e)) ∧ Below w'.heap.size w' w'') :
    Calls Try.prog 25 #[.pointer (some ⟨b, 0, none⟩), .func (.func 26) #[] #[.pointer (some ⟨p1, 0, none⟩)]] w fun e w' => e = .returned (nodeAt ns k) ∧ Below w.heap.size w w' := by
  have SK := keep (seek_one p1 b ns P k w hC hk hF)
  have HC := keep hC
  have hkl : k ≤ ns.length := by have := hk.1; simpa using this
  obtain ⟨hla, hhi⟩ := last_all ht hkl
  have HHI := keep hhi
  have HLA := keep hla
  have HNA := keep (nxt_all ht k)
  clear hC hk hF hla hhi ht
  go_enter Try.func25, Try.ntmps25
  go_wp2_with fail
  refine SK.out.mono ?_
  rintro e w1 ⟨c, rfl, hc1, hc2, hb1⟩
  have h0 := hc2 0 (by decide)
  rw [HLA.out] at h0
  obtain ⟨a0, a1, a2, a3, a4, a5, a6, a7, a8, a9, a10, a11, rfl⟩ := twelve hc1
  have e0 : a0 = ptr (blk b ns k) := by simpa using h0
  subst e0
  have cn := (HC.out.below hb1).at_ HHI.out (by decide)
  rw [HNA.out] at cn
  have B1 := keep hb1
  obtain ⟨B, hB⟩ : ∃ B, blk b ns k = B := ⟨_, rfl⟩
  unfold ptr
  rw [hB] at cn ⊢
  have cn' : w1.cell? ⟨B, 4, none⟩ = some (nodeAt ns k) := cn
  obtain ⟨V, hV⟩ : ∃ V, nodeAt ns k = V := ⟨_, rfl⟩
  rw [hV] at cn'
  have HV := keep hV
  clear hc1 hc2 h0 hb1 SK hB cn hV
  have ix := index0 B a1 a2 a3 a4 a5 a6 a7 a8 a9 a10 a11 w1
  go_wp2
  go_ret
  exact ⟨by rw [HV.out]; rfl, B1.out⟩
/-- The closure of Scan: captured is the key, in block p1. -/
def FromIn (w : World) (p1 : Nat) (key : List UInt8) : Prop := ∃ kp kc, Src w kp key.length kc key ∧ w.cell? ⟨p1, 0, none⟩ = some (.slice kp key.length kc)
theorem FromIn.below {w w' : World} {p1 : Nat} {key : List UInt8} (h : FromIn w p1 key) (hb : Below w.heap.size w w') : FromIn w' p1 key := by
  obtain ⟨kp, kc, h1, h2⟩ := h
  exact ⟨kp, kc, h1.below hb, below_cell hb h2⟩
set_option maxHeartbeats 1000000 in
set_option maxRecDepth 100000 in
theorem from_any (p1 : Nat) (key : List UInt8) (x : EV) (w : World) (h : FromIn w p1 key) (hh : entKind.held w x) :
    Calls Try.prog 26 #[ev x, .pointer (some ⟨p1, 0, none⟩)] w fun e w' => e = .returned (.bool (less x.e.key key)) ∧ Below w.heap.size w w' := by
  obtain ⟨kp, kc, hs, hc1⟩ := h
  obtain ⟨xkp, xkc, xvp, xvc, xkey, xseq, xgone, xval⟩ := x
  have hk : Src w xkp xkey.length xkc xkey := hh.1
  clear hh
  unfold ev
  simp only
  have hal := keep ((Below.refl w.heap.size w).alloc (Nat.le_refl _) (.cells #[.slice xkp xkey.length xkc, .int .i64 xseq, .bool xgone, .slice xvp xval.length xvc] 28))
  have d1 := below_cell hal.out hc1
  have LS := keep (less_any xkp xkey.length xkc xkey kp key.length kc key _ (hk.below hal.out) (hs.below hal.out))
  clear hs hc1 hk
  go_enter Try.func26, Try.ntmps26
  go_wp2_with fail
  refine LS.out.mono ?_
  rintro e w2 ⟨rfl, rfl⟩
  go_wp2
  go_ret
  exact ⟨rfl, hal.out⟩
end Go.Proofs.Ytjiphmeoofeepaa
