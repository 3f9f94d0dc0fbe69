/- The walks of table's putSum and Build. -/
/- A region's answers joined; slots set; no walk. -/
/- The walk of table's read. -/
import Derived.Test.YtjblicgbdecbcaaGreatZQ4j
import Derived.Test.YtjblicgbdecbcaaGreatZJ6j
import Derived.Test.YtjblicgbdecbcaaGreatZB5
import Derived.Test.YtjblicgbdecbcaaGreatZJc
import Derived.Test.YtjblicgbdecbcaaGreatZJ9
import Derived.Deep.Cut
namespace Go.Proofs.YtjblicgbdecbcaaGreat
open Go.RowKit
open Sk (Ent)

set_option maxHeartbeats 2000000 in
set_option maxRecDepth 100000 in
theorem tputSum_any (B : Nat) (ao : Option Addr) (m c : Nat) (l : List UInt8) (w : World) (hm : m ≤ 1000000) (hB : B ≤ w.heap.size) (ho : w.ownsRow B 5 1 (.slice ao m c) m (bv l)) :
    Calls Tryz.prog 30 #[.slice ao m c] w fun e w' => ∃ v, e = .returned v ∧ w'.ownsRow B 5 1 v (m + 4) (bv (summed l)) ∧ Below B w w' := by
  obtain ⟨i0, hi, hz0, hz1, hz2⟩ := info_parts info5
  obtain ⟨_, _, e1, hs, _⟩ := Src.of_own ho
  cases e1
  have O0 := keep ho
  have KC := keep (crc_any ao m c l w (by omega) hs)
  obtain ⟨X, hX⟩ : ∃ X, crc l = X := ⟨_, rfl⟩
  have HX := keep hX
  rw [hX] at KC
  clear hX ho hs
  have hXl := X.toNat_lt
  obtain ⟨y0, hy0⟩ : ∃ y, UInt8.ofNat (X.toNat / 16777216) = y := ⟨_, rfl⟩
  obtain ⟨y1, hy1⟩ : ∃ y, UInt8.ofNat (X.toNat / 65536) = y := ⟨_, rfl⟩
  obtain ⟨y2, hy2⟩ : ∃ y, UInt8.ofNat (X.toNat / 256) = y := ⟨_, rfl⟩
  obtain ⟨y3, hy3⟩ : ∃ y, UInt8.ofNat X.toNat = y := ⟨_, rfl⟩
  have g0 : Hid (X.toNat / 16777216 % 256 = y0.toNat) := by rw [← hy0, UInt8.toNat_ofNat']; exact rfl
  have g1 : Hid (X.toNat / 65536 % 256 = y1.toNat) := by rw [← hy1, UInt8.toNat_ofNat']; exact rfl
  have g2 : Hid (X.toNat / 256 % 256 = y2.toNat) := by rw [← hy2, UInt8.toNat_ofNat']; exact rfl
  have g3 : Hid (X.toNat % 256 = y3.toNat) := by rw [← hy3, UInt8.toNat_ofNat']; exact rfl
  have HB := keep (be4 X)
  rw [hy0, hy1, hy2, hy3] at HB
  have HXL := keep hXl
  clear hy0 hy1 hy2 hy3 hXl
  go_enter Tryz.func30, Tryz.ntmps30
  go_wp2_with fail
  refine KC.out.mono ?_
  rintro e w5 ⟨rfl, hb5⟩
  have O5 := keep (own_below O0.out hb5)
  have b5 := keep hb5
  have b5' := keep (hb5.mono hB)
  clear hb5
  have hB5 : B ≤ w5.heap.size := Nat.le_trans hB b5.out.size
  go_wp2_with (at_builtin; refine wpList_append_src rfl _ _ 24 rfl B i0 _ Tryz.underlying24 hi hz0 hz1 hz2 rfl _ m l rfl (by exact O5.out.alloc _) _ 4 4 [y0, y1, y2, y3] rfl (Src.built4 _ _ _ _ _ _ _ _ _ (by have h1 := g0.out; have h2 := HXL.out; unfold U; omega) (by have h1 := g1.out; have h2 := HXL.out; unfold U; omega) (by have h1 := g2.out; have h2 := HXL.out; unfold U; omega) (by have h1 := g3.out; have h2 := HXL.out; unfold U; omega)) (by omega) (le_alloc hB5 _) ?_; intro v6 w6 ho6 hg6; have O6 := keep ho6; have b6 := keep ((b5'.out.alloc hB5 _).grown hg6 (le_alloc hB5 _) (fun j hj => (O5.out.lt j hj).1)); clear ho6 hg6)
  go_ret
  refine ⟨_, rfl, ?_, b6.out⟩
  unfold summed
  rw [HX.out, HB.out]
  exact O6.out
/-- Build's answer. -/
def TBuilt (w : World) (L : List Ent) (e : Ending) (w' : World) : Prop :=
  (Tq.tok L = true ∧ ∃ a c, e = .returned (.tuple #[.slice a (Tq.tab L).length c, .int .i64 0]) ∧ w'.ownsRow w.heap.size 5 1 (.slice a (Tq.tab L).length c) (Tq.tab L).length (bv (Tq.tab L)) ∧ Below w.heap.size w w') ∨
  (Tq.tok L = false ∧ e = .returned (.tuple #[.slice none 0 0, .int .i64 1]) ∧ Below w.heap.size w w')
theorem tbuilt_no {w w' : World} {L : List Ent} (h : Tq.tok L = false) (hb : Below w.heap.size w w') : TBuilt w L (.returned (.tuple #[.slice none 0 0, .int .i64 1])) w' := .inr ⟨h, rfl, hb⟩
theorem tbuilt_yes {w w' : World} {L : List Ent} {a : Option Addr} {n c : Nat} (h : Tq.tok L = true) (ho : w'.ownsRow w.heap.size 5 1 (.slice a n c) n (bv (Tq.tab L))) (hb : Below w.heap.size w w') : TBuilt w L (.returned (.tuple #[.slice a n c, .int .i64 0])) w' := by
  have hn : (Tq.tab L).length = n := by have := ho.1; rw [bv_length] at this; omega
  subst hn
  exact .inl ⟨h, a, c, rfl, ho, hb⟩
/-- The bytes of the first k blocks. -/
def upto (L : List Ent) (k : Nat) : List UInt8 := Tq.swt ++ (num (Tq.cnt L.length) ++ Tq.blksB L k)
theorem upto_succ (L : List Ent) (k : Nat) : upto L (k + 1) = upto L k ++ (num (Bq.blk (Tq.grp L k)).length ++ Bq.blk (Tq.grp L k)) := by
  unfold upto
  rw [Tq.blksB_succ, Tq.txtB]
  simp only [List.append_assoc]
theorem upto_len {L : List Ent} (h : Tq.tok L = true) {k : Nat} (hk : k ≤ Tq.cnt L.length) : (upto L k).length ≤ 80000 := by
  have h1 := Tq.blksB_len h k hk
  have h2 := Tq.cnt_le h
  have h3 := Bq.num_len (n := Tq.cnt L.length) (by omega)
  simp only [upto, Tq.swt, List.length_append, List.length_cons, List.length_nil]
  omega
/-- How far Build has come: k blocks are laid. -/
structure TBuildI (w : World) (L : List Ent) (k : Nat) (a : Option Addr) (c : Nat) (Bs : List UInt8) (wr : World) : Prop where
  bytes : Bs = upto L k
  src : Src wr a Bs.length c Bs
  own : wr.ownsRow w.heap.size 5 1 (.slice a Bs.length c) Bs.length (bv Bs)
  bel : Below w.heap.size w wr
set_option maxHeartbeats 4000000 in
set_option maxRecDepth 100000 in
theorem tbuild_any (ao : Option Addr) (n c : Nat) (es : List EV) (w : World) (hsrc : RSrc entKind w ao n c es) (hMAY : ∀ y ∈ es, y.e.key.length ≤ 9223372036854775807 ∧ y.e.val.length ≤ 9223372036854775807) :
    Calls Tryz.prog 6 #[.slice ao n c] w (TBuilt w (es.map (·.e))) := by
  have CK := keep (tcheck_any ao n c es w hsrc hMAY)
  have SRC := keep hsrc
  have MAY := keep hMAY
  obtain ⟨L, hL⟩ : ∃ L, es.map (·.e) = L := ⟨_, rfl⟩
  rw [hL] at CK ⊢
  have hlen : L.length = n := by rw [← hL, List.length_map]; exact hsrc.len
  have HL := keep hL
  have hcap := hsrc.cap
  clear hsrc hMAY hL
  cases hok : Tq.tok L with
  | false =>
    have hc : tchk L = 1 := by unfold tchk; rw [hok]; rfl
    rw [hc] at CK
    have OK := keep hok
    clear hok hc hlen
    go_enter Tryz.func6, Tryz.ntmps6
    go_wp2_with fail
    refine CK.out.mono ?_
    rintro e w1 ⟨rfl, hb1⟩
    have b1 := keep hb1
    clear hb1
    go_wp2
    go_ret2
    exact tbuilt_no OK.out b1.out
  | true =>
    have hc : tchk L = 0 := by unfold tchk; rw [hok]; rfl
    rw [hc] at CK
    have OK := keep hok
    have h8 := Tq.tok_len hok
    rw [hlen] at h8
    have n1 : 1 ≤ n := h8.1
    have n8 : n ≤ 64 := h8.2
    have HLN := keep hlen
    have CNT := keep (Tq.cnt_le hok)
    rw [hlen] at CNT
    clear hok hc hlen h8
    obtain ⟨b, off, rfl, _, _⟩ := SRC.out.form entKind_ok (by omega)
    go_enter Tryz.func6, Tryz.ntmps6
    go_wp2_with fail
    refine CK.out.mono ?_
    rintro e w1 ⟨rfl, hb1⟩
    have b1 := keep hb1
    clear hb1 CK
    go_wp2_with fail
    refine (chunk_any (some ⟨b, off, none⟩) n c w1).mono ?_
    rintro e w2 ⟨rfl, hw2⟩
    have b2 : Hid (Below w1.heap.size w1 w2) := by rw [hw2]; exact ((Below.refl _ _).alloc (Nat.le_refl _) _).alloc (by simp) _
    have CO : Hid _ := keep (collect_any w1.heap.size (w1.heap.size + 1) b off n c es w2 n1 n8 hcap (by rw [hw2]; exact cell_of_row _ _ _ _ _ _ ((Below.heap_alloc _ _ _ (by simp)).trans (heap_alloc_new w1 _)))
      (by
        have := heap_alloc_new (w1.alloc (.cells #[.slice (some ⟨b, off, none⟩) n c] 22)) (.cells #[.int .i64 8] 3)
        rw [World.size_alloc] at this
        rw [hw2]; exact cell_of_row _ _ _ _ _ _ this))
    have B2 := keep (b1.out.trans (b2.out.mono b1.out.size))
    clear hw2 b2
    obtain ⟨K, hK⟩ : ∃ K, Tq.cnt n = K := ⟨_, rfl⟩
    have HK := keep hK
    rw [hK] at CO CNT
    clear hK
    go_wp2_with fail
    refine CO.out.mono ?_
    rintro e w3 ⟨v, rfl, ho3, hb3⟩
    obtain ⟨va, vc, rfl, hR3, _⟩ := RSrc.own grpKind_ok ho3 (fun g hg => by
      obtain ⟨k, hk, rfl⟩ := List.mem_map.1 hg
      have hk := List.mem_range.1 hk
      refine grpE_held (SRC.out.below entKind_ok (B2.out.trans (hb3.mono B2.out.size))) (c := c) ?_
      have := HK.out
      unfold Tq.cnt at this
      omega)
    have R3 := keep hR3
    have B3 := keep (B2.out.trans (hb3.mono B2.out.size))
    clear ho3 hb3 hR3 CO
    have kc := conv_constS w3 #[.int .u8 83, .int .u8 87, .int .u8 84, .int .u8 49] 4 4
    simp only [List.size_toArray, List.length_cons, List.length_nil, Nat.reduceAdd] at kc
    obtain ⟨W4, hW4⟩ : ∃ W4, w3.alloc (.cells #[.int .u8 83, .int .u8 87, .int .u8 84, .int .u8 49] 5 (4, 5)) = W4 := ⟨_, rfl⟩
    have b4 : Hid (Below w3.heap.size w3 W4) := by rw [← hW4]; exact (Below.refl _ _).alloc (Nat.le_refl _) _
    have s4 : Hid (Src W4 (some ⟨w3.heap.size, 0, none⟩) 4 4 Tq.swt) := by
      rw [← hW4]
      refine Src.mk_bytes rfl (Nat.le_refl _) (fun i hi => ?_)
      rcases (show i = 0 ∨ i = 1 ∨ i = 2 ∨ i = 3 by omega) with rfl | rfl | rfl | rfl <;> (rw [cell_of_row _ _ _ _ _ _ (heap_alloc_new w3 _)]; rfl)
    have PN : Hid (Calls Tryz.prog 25 #[.slice (some ⟨w3.heap.size, 0, none⟩) 4 4, .int .i64 (K : Int)] W4 (Laid8 W4 (upto L 0))) := by
      have h1 := putNum_laid (W := W4) (n := K) (Below.refl _ _) (by omega) (by have := CNT.out; omega) s4.out
      have e : upto L 0 = Tq.swt ++ num K := by
        have h2 := HK.out
        have h3 := HLN.out
        unfold upto
        rw [h3, h2]
        simp [Tq.blksB, Tq.blks]
      rw [e]
      exact h1
    unfold Laid8 at PN
    go_wp2_with fail
    refine PN.out.mono ?_
    rintro e w5 ⟨a5, c5, rfl, hs5, ho5, hb5⟩
    have B4 := keep (B3.out.trans (b4.out.mono B3.out.size))
    have I5 : Hid (TBuildI w L 0 a5 c5 (upto L 0) w5) := ⟨rfl, hs5, own_base ho5 (fun g hg => Nat.le_trans B4.out.size (ho5.lt g hg).1), B4.out.trans (hb5.mono B4.out.size)⟩
    have B5 : Hid (Below w3.heap.size w3 w5) := b4.out.trans (hb5.mono b4.out.size)
    obtain ⟨U0, hU0⟩ : ∃ U0, upto L 0 = U0 := ⟨_, rfl⟩
    rw [hU0] at I5 ⊢
    clear hs5 ho5 hb5 PN hU0 hW4 kc
    have hK8 : K ≤ 8 := CNT.out.2
    have hK1 : 1 ≤ K := CNT.out.1
    have UL : Hid (∀ k, k ≤ K → (upto L k).length ≤ 80000) := fun k hk => upto_len OK.out (by rw [HLN.out, HK.out]; exact hk)
    go_wp2
    go_loopw [6, 26] (fun vb i wr => ∃ (k : Nat) (a : Option Addr) (c3 : Nat) (Bs : List UInt8), k ≤ K ∧ vb = .slice a Bs.length c3 ∧ i = .int .i64 (k : Int) ∧ Hid (TBuildI w L k a c3 Bs wr ∧ Below w3.heap.size w3 wr)) (fun _ i _ => K - (intOf i).toNat)
    case atStart => exact ⟨0, _, _, _, Nat.zero_le _, rfl, rfl, I5.out, B5.out⟩
    case round =>
      obtain ⟨k, a, c3, Bs, hk, rfl, rfl, hI⟩ := hrel
      clear I5 B5
      have HI := keep hI.out.1
      have HB := keep hI.out.2
      clear hI
      by_cases hkK : k < K
      · obtain ⟨vb, vo, rfl, _, hcells⟩ := R3.out.form grpKind_ok (by omega)
        have hg : ((List.range K).map (grpE b off n es))[k]? = some (grpE b off n es k) := by rw [List.getElem?_map, List.getElem?_range hkK]; rfl
        have hcell : wr.cell? ⟨vb, vo + k, none⟩ = some (.slice (some ⟨b, off + 8 * k * 4, none⟩) (gl n k) (gl n k)) := by
          have := hcells k _ hg 0 _ rfl
          have e : grpKind.size = 1 := rfl
          rw [e, Nat.mul_one, Nat.add_zero] at this
          exact belowc HB.out this
        have hkn : 8 * k < n := by have := HK.out; unfold Tq.cnt at this; omega
        have GH := keep (grpE_held (k := k) (SRC.out.below entKind_ok HI.out.bel) hkn)
        have BB := keep (build_any (some ⟨b, off + 8 * k * 4, none⟩) (gl n k) (gl n k) ((es.drop (8 * k)).take 8) wr GH.out (fun y hy => MAY.out y (List.mem_of_mem_drop (List.mem_of_mem_take hy))))
        have hGM : ((es.drop (8 * k)).take 8).map (·.e) = Tq.grp L k := by rw [List.map_take, List.map_drop, HL.out]; rfl
        rw [hGM] at BB
        have OKB := keep (Tq.grp_ok OK.out (k := k) (by rw [HLN.out, HK.out]; exact hkK))
        have US := keep (upto_succ L k)
        have UK := keep (UL.out k (by omega))
        have BLK := keep (Bq.blk_len OKB.out)
        obtain ⟨G, hG⟩ : ∃ G, Tq.grp L k = G := ⟨_, rfl⟩
        rw [hG] at BB OKB US BLK
        clear hG hGM hcells hg GH
        have ll : (k : Int) < (K : Int) := by omega
        have ll0 : (0 : Int) ≤ (k : Int) := by omega
        go_wp2_with fail
        refine BB.out.mono ?_
        rintro e w6 (⟨_, a6, c6, rfl, ho6, hb6⟩ | ⟨hno, _⟩)
        · obtain ⟨_, _, hv6, hS6, _⟩ := New.src ⟨ho6, hb6⟩
          cases hv6
          have cv := conv_src hS6
          have PT := keep (putText_laid (W := w6) (w := w6) (s := Bq.blk G) (Below.refl _ _) (by have := UK.out; have := BLK.out; have := HI.out.bytes; rw [this]; omega) (HI.out.src.below hb6))
          have HB6 := keep hb6
          obtain ⟨P, hP⟩ : ∃ P, Bs ++ (num (Bq.blk G).length ++ Bq.blk G) = P := ⟨_, rfl⟩
          have HP : Hid (P = upto L (k + 1)) := by show _ = _; rw [← hP, US.out, HI.out.bytes]
          rw [hP] at PT
          clear ho6 hb6 hS6 hP
          unfold Laid8 at PT
          go_wp2_with fail
          refine PT.out.mono ?_
          rintro e w7 ⟨a7, c7, rfl, hs7, ho7, hb7⟩
          have B7 := keep (HB6.out.trans (hb7.mono HB6.out.size))
          have BW := keep (HI.out.bel.trans (B7.out.mono HI.out.bel.size))
          have I7 : Hid (TBuildI w L (k + 1) a7 c7 P w7 ∧ Below w3.heap.size w3 w7) := ⟨⟨HP.out, hs7, own_base ho7 (fun g hg => Nat.le_trans (Nat.le_trans HI.out.bel.size HB6.out.size) (ho7.lt g hg).1), BW.out⟩, HB.out.trans (B7.out.mono HB.out.size)⟩
          clear hs7 ho7 hb7 cv
          go_wp2
          go_roundw
          case rel => exact ⟨k + 1, a7, c7, P, by omega, rfl, by first | rfl | go_num, I7.out⟩
          case measure => simp [intOf]; omega
        · have := OKB.out
          rw [hno] at this
          cases this
      · obtain rfl : k = K := by omega
        have ll : ¬ (k : Int) < (k : Int) := by omega
        have KO := keep (keysOf_any (some ⟨b, off, none⟩) n c es wr (SRC.out.below entKind_ok HI.out.bel) n8)
        rw [HL.out] at KO
        go_wp2_with fail
        refine KO.out.mono ?_
        rintro e w6 ⟨v6, rfl, bs, hI6⟩
        obtain ⟨ka, kcc, rfl, hR6, _⟩ := RSrc.own byteKind_ok hI6.row (fun e he => byteKind_ok.below (hI6.each e he) hI6.bel)
        have hsm : bs.length ≤ 64 := by have := hI6.len; omega
        have hks : bs.map (·.bytes) = Tq.tkeys L := by rw [hI6.keys]; show Tq.ks L n = Tq.ks L L.length; rw [HLN.out]
        have BLM := keep (bloomB_any ka bs.length kcc bs w6 (by omega) (fun e he => by
          have h1 : e.bytes ∈ Tq.tkeys L := by rw [← hks]; exact List.mem_map.2 ⟨e, he, rfl⟩
          obtain ⟨x, hx, hxe⟩ := Tq.tkeys_mem h1
          have h2 := (Bq.may_bounds (Tq.tok_may OK.out x hx)).2.1
          rw [← hxe]
          omega) hR6)
        rw [hks] at BLM
        have B6 := keep hI6.bel
        clear hI6 hR6 hks
        go_wp2_with fail
        refine BLM.out.mono ?_
        rintro e w7 ⟨v7, rfl, hN7⟩
        obtain ⟨a7, c7, rfl, hS7, _⟩ := hN7.src
        have cv := conv_src hS7
        have FL := keep (Tq.filt_len OK.out)
        have hfl : Bl.sizeOf bs.length = (Tq.filt L).length := by rw [← hS7.len]; rfl
        have B7 := keep (B6.out.trans (hN7.2.mono B6.out.size))
        have ULK := keep (UL.out k (Nat.le_refl _))
        have PT := keep (putText_laid (W := w7) (w := w7) (s := Tq.filt L) (Below.refl _ _) (by have := ULK.out; have := FL.out; have := HI.out.bytes; rw [this]; omega) (HI.out.src.below B7.out))
        obtain ⟨P, hP⟩ : ∃ P, Bs ++ (num (Tq.filt L).length ++ Tq.filt L) = P := ⟨_, rfl⟩
        have HP : Hid (P = Tq.traw L) := by
          show _ = _
          rw [← hP, HI.out.bytes]
          unfold upto Tq.traw Tq.txtB
          rw [HLN.out, HK.out]
          simp only [List.append_assoc]
        have PL : Hid (P.length ≤ 72300) := by show _ ≤ _; rw [HP.out]; exact Tq.traw_len OK.out
        rw [hP] at PT
        clear hN7 hS7 hP hfl
        have cv2 : (convert 24 9 (.slice a7 (Bl.sizeOf bs.length) c7)).run Tryz.prog w7 = .ok (.string ⟨(Tq.filt L).toArray⟩) w7 := cv
        clear cv
        unfold Laid8 at PT
        go_wp2_with fail
        refine PT.out.mono ?_
        rintro e w8 ⟨a8, c8, rfl, hs8, ho8, hb8⟩
        have BX := keep (HI.out.bel.trans (B7.out.mono HI.out.bel.size))
        have SU := keep (tputSum_any w.heap.size a8 P.length c8 P w8 (by have := PL.out; omega) (Nat.le_trans BX.out.size hb8.size) (own_base ho8 (fun g hg => Nat.le_trans BX.out.size (ho8.lt g hg).1)))
        have B8 := keep (BX.out.trans (hb8.mono BX.out.size))
        clear hs8 ho8 hb8
        go_wp2_with fail
        refine SU.out.mono ?_
        rintro e w9 ⟨v9, rfl, ho9, hb9⟩
        obtain ⟨a9, c9, rfl, _, _⟩ := Src.of_own ho9
        have O9 := keep ho9
        have B9 := keep (B8.out.trans hb9)
        clear ho9 hb9
        go_wp2
        go_ret2
        refine tbuilt_yes OK.out ?_ B9.out
        have e : Tq.tab L = summed P := by rw [HP.out]; rfl
        rw [e]
        exact O9.out
end Go.Proofs.YtjblicgbdecbcaaGreat
namespace Go.Proofs.YtjblicgbdecbcaaGreat
open Go.RowKit
open Sk (Ent)

/-- R where the region ends as it should; never elsewhere. -/
def OnlyN (R : Act → World → Prop) : Exit → Act → World → Prop
  | .normal, a, w => R a w
  | _, _, _ => False
theorem region_share {P : Program} {id : Nat} {ops : Array Oper} {b : Bool} {Q : Exit → Act → World → Prop} {a : Act} {w : World} (R : Act → Act → World → Prop) (h1 : (Code.region id ops b).wp P (OnlyN (R a)) a w) (h2 : ∀ a' w', R a a' w' → Q .normal a' w') : (Code.region id ops b).wp P Q a w :=
  Code.wp_mono (fun e a' w' hh => by
    cases e with
    | normal => exact h2 a' w' hh
    | _ => exact (hh : False).elim) h1
/-- An activation, some slots set. -/
def sets (a : Act) : List (Nat × Value) → Act
  | [] => a
  | (i, v) :: t => sets (a.put (some i) v) t
end Go.Proofs.YtjblicgbdecbcaaGreat
namespace Go.Proofs.YtjblicgbdecbcaaGreat
open Go.RowKit
open Sk (Ent)

/-- A text taken: what it is, what is left, where that lies. -/
def TookS (w : World) (S R : List UInt8) (e : Ending) (w' : World) : Prop :=
  ∃ ao c E, e = .returned (.tuple #[.string ⟨S.toArray⟩, .slice ao R.length c, .int .i64 E]) ∧ Src w' ao R.length c R ∧ In5 w' ao ∧ Below w.heap.size w w'
theorem takeText_own (ao : Option Addr) (m c : Nat) (l : List UInt8) (most : Int) (w : World) (hm : m ≤ 140737488355328) (hs : Src w ao m c l) :
    Calls Tryz.prog 73 #[.slice ao m c, .int .i64 most] w (TookS w (Bq.tS l most) (Bq.tR l most)) :=
  (takeTextO_any ao m c l most w hm hs).mono fun e w' h => by
    rcases h with ⟨S, R, ao2, c2, ht, rfl, hs2, h5, hb⟩ | ⟨ht, rfl, hb⟩
    · have e1 : Bq.tS l most = S := by simp [Bq.tS, ht]
      have e2 : Bq.tR l most = R := by simp [Bq.tR, ht]
      rw [e1, e2]
      exact ⟨ao2, c2, 0, rfl, hs2, h5, hb⟩
    · have e1 : Bq.tS l most = [] := by simp [Bq.tS, ht]
      have e2 : Bq.tR l most = [] := by simp [Bq.tR, ht]
      rw [e1, e2]
      exact ⟨none, 0, 2, rfl, Src.empty (fun _ => rfl), in5_none _, hb⟩
/-- Pointers as they lie in memory. -/
def ptrKind : Kind Nat where
  size := 1
  vals p := [.pointer (some ⟨p, 0, none⟩)]
  held _ _ := True
theorem ptrKind_ok : ptrKind.Ok :=
  ⟨by decide, fun _ => rfl, fun e u hu => by
    simp only [ptrKind, List.mem_cons, List.not_mem_nil, or_false] at hu
    rw [hu]; rfl, fun _ _ => trivial⟩
theorem infoP : (Tryz.prog.info? 68).map (fun i => (i.zero, i.size, i.bytes)) = some (some (.pointer none), 1, 8) := by kernel_rfl
/-- A piece that was not asked yet. -/
structure PE where
  blk : Nat
  ra : Option Addr
  rc : Nat
  raw : List UInt8
structure PRaw (w : World) (p : PE) : Prop where
  row : w.heap[p.blk]? = some (.cells #[.int .u32 0, .int .i32 0, .int .u32 0, .slice p.ra p.raw.length p.rc, .slice none 0 0] 102)
  src : Src w p.ra p.raw.length p.rc p.raw
  in5 : In5 w p.ra
theorem PRaw.turn {w w' : World} {p : PE} (h : PRaw w p) (ht : T5 w w') (hp : w'.heap[p.blk]? = w.heap[p.blk]?) : PRaw w' p := ⟨hp.trans h.row, src_turn h.src h.in5 ht, h.in5.turn ht⟩
theorem PRaw.below {w w' : World} {p : PE} (h : PRaw w p) (hb : Below w.heap.size w w') : PRaw w' p := h.turn (T5.of_below hb) (hb.block _ (Array.getElem?_eq_some_iff.1 h.row).1)
/-- How far read has come: k pieces are there. -/
structure RdT (w : World) (tb : Nat) (R0 : List UInt8) (k : Nat) (ps : List PE) (v : Value) (ra : Option Addr) (M rc : Nat) (wr : World) : Prop where
  tab : wr.heap[tb]? = some (.cells #[v, .slice none 0 0] 67)
  row : wr.ownsRow w.heap.size 68 1 v ps.length (rv ptrKind (ps.map (·.blk)))
  each : ∀ p ∈ ps, PRaw wr p
  far : ∀ p ∈ ps, w.heap.size ≤ p.blk
  nodup : (ps.map (·.blk)).Nodup
  raws : ps.map (·.raw) = Tq.readP k R0
  rest : Src wr ra M rc (Tq.readR k R0)
  bel : Below w.heap.size w wr
theorem RdT.len {w : World} {tb : Nat} {R0 : List UInt8} {k : Nat} {ps : List PE} {v : Value} {ra : Option Addr} {M rc : Nat} {wr : World} (h : RdT w tb R0 k ps v ra M rc wr) : ps.length = k := by
  have := congrArg List.length h.raws
  rwa [List.length_map, Tq.readP_len] at this
theorem RdT.next {w : World} {tb : Nat} {R0 : List UInt8} {k : Nat} {ps : List PE} {v v8 : Value} {ra : Option Addr} {M rc : Nat} {wr w2 w8 : World} (h : RdT w tb R0 k ps v ra M rc wr) (htb : w.heap.size ≤ tb) (hb2 : Below wr.heap.size wr w2)
    {W5 : World} {S : List UInt8} {kS : Nat} (hS : S = Bq.tS (Tq.readR k R0) ((Tq.readR k R0).length : Nat)) (hb5 : Below w2.heap.size w2 W5) (hs5 : Src W5 (some ⟨w2.heap.size, 0, none⟩) S.length kS S) (h55 : In5 W5 (some ⟨w2.heap.size, 0, none⟩))
    {ra2 : Option Addr} {rc2 : Nat} (hr2 : Src w2 ra2 (Bq.tR (Tq.readR k R0) ((Tq.readR k R0).length : Nat)).length rc2 (Bq.tR (Tq.readR k R0) ((Tq.readR k R0).length : Nat))) (hr5 : In5 w2 ra2)
    (ho : w8.ownsRow w.heap.size 68 1 v8 (ps.length + 1) (rv ptrKind (ps.map (·.blk) ++ [W5.heap.size])))
    (hg : ((W5.alloc (Obj.cells #[.int .u32 0, .int .i32 0, .int .u32 0, .slice (some ⟨w2.heap.size, 0, none⟩) S.length kS, .slice none 0 0] 102)).alloc (Obj.cells #[.pointer (some ⟨W5.heap.size, 0, none⟩)] 68)).grownBy w8 v.ownBlock) :
    w8.heap[tb]? = some (.cells #[v, .slice none 0 0] 67) ∧ RdT w tb R0 (k + 1) (ps ++ [⟨W5.heap.size, some ⟨w2.heap.size, 0, none⟩, kS, S⟩]) v8 ra2 (Bq.tR (Tq.readR k R0) ((Tq.readR k R0).length : Nat)).length rc2 (w8.setCell ⟨tb, 0, none⟩ v8) := by
  obtain ⟨W7, hW7⟩ : ∃ W7 : World, ((W5.alloc (Obj.cells #[.int .u32 0, .int .i32 0, .int .u32 0, .slice (some ⟨w2.heap.size, 0, none⟩) S.length kS, .slice none 0 0] 102)).alloc (Obj.cells #[.pointer (some ⟨W5.heap.size, 0, none⟩)] 68)) = W7 := ⟨_, rfl⟩
  have b57 : Below W5.heap.size W5 W7 := by rw [← hW7]; exact ((Below.refl _ _).alloc (Nat.le_refl _) _).alloc (by simp) _
  have p7 : W7.heap[W5.heap.size]? = some (.cells #[.int .u32 0, .int .i32 0, .int .u32 0, .slice (some ⟨w2.heap.size, 0, none⟩) S.length kS, .slice none 0 0] 102) := by
    rw [← hW7]; exact (Below.heap_alloc _ _ _ (by simp)).trans (heap_alloc_new W5 _)
  rw [hW7] at hg
  have b7 : Below wr.heap.size wr W7 := hb2.trans ((hb5.trans (b57.mono hb5.size)).mono hb2.size)
  have b27 : Below w2.heap.size w2 W7 := hb5.trans (b57.mono hb5.size)
  have r7 := own_block h.row (fun g hg => b7.block g (own_size h.row hg))
  have keepB : ∀ (g : Nat) (c : Array Value) (t : TypeId), W7.heap[g]? = some (Obj.cells c t (0, 0)) → t ≠ 68 → w8.heap[g]? = W7.heap[g]? := fun g c t hgc hne => hg.block g (Array.getElem?_eq_some_iff.1 hgc).1 (fun e => by
    obtain ⟨cur, hc⟩ := own_tag r7 e.symm
    rw [hgc] at hc
    cases hc
    exact hne rfl)
  have t8 : w8.heap[tb]? = some (.cells #[v, .slice none 0 0] 67) := by
    have h7 : W7.heap[tb]? = some (.cells #[v, .slice none 0 0] 67) := (b7.block _ (Array.getElem?_eq_some_iff.1 h.tab).1).trans h.tab
    exact (keepB tb _ _ h7 (by decide)).trans h7
  have T78 : T5 W7 w8 := T5.of_grown r7 (by decide) hg
  have T89 : T5 w8 (w8.setCell ⟨tb, 0, none⟩ v8) := fun g cur fr hc => Below.heap_setCell _ _ _ g (fun e => by rw [show g = tb from e, t8] at hc; cases hc)
  have T79 : T5 W7 (w8.setCell ⟨tb, 0, none⟩ v8) := fun g cur fr hc => (T89 g cur fr ((T78 g cur fr hc).trans hc)).trans (T78 g cur fr hc)
  have far9 : ∀ (g : Nat) (c : Array Value), W7.heap[g]? = some (Obj.cells c 102 (0, 0)) → (w8.setCell ⟨tb, 0, none⟩ v8).heap[g]? = W7.heap[g]? := fun g c hgc =>
    (Below.heap_setCell _ _ _ g (fun e => by
      have := keepB g _ _ hgc (by decide)
      rw [show g = tb from e, t8, ← show g = tb from e, hgc] at this
      cases this)).trans (keepB g _ _ hgc (by decide))
  have h7 : ∀ p ∈ ps, PRaw W7 p := fun p hp => (h.each p hp).below b7
  have hnew : PRaw W7 ⟨W5.heap.size, some ⟨w2.heap.size, 0, none⟩, kS, S⟩ := ⟨p7, hs5.below b57, h55.turn (T5.of_below b57)⟩
  have b8 : Below w.heap.size w w8 := (h.bel.trans (b7.mono h.bel.size)).grown hg (Nat.le_trans h.bel.size b7.size) (fun j hj => (r7.lt j hj).1)
  refine ⟨t8, set_row t8 0 v8, ?_, ?_, ?_, ?_, ?_, ?_, b8.setCell (p := ⟨tb, 0, none⟩) htb _⟩
  · rw [List.length_append, List.map_append]
    refine own_block ho (fun g hg => Below.heap_setCell _ _ _ g (fun e => ?_))
    obtain ⟨cur, hc⟩ := own_tag ho hg
    rw [show g = tb from e, t8] at hc
    cases hc
  · intro p hp
    rcases List.mem_append.1 hp with hp | hp
    · exact (h7 p hp).turn T79 (far9 _ _ (h7 p hp).row)
    · rw [List.mem_singleton.1 hp]
      exact hnew.turn T79 (far9 _ _ hnew.row)
  · intro p hp
    rcases List.mem_append.1 hp with hp | hp
    · exact h.far p hp
    · rw [List.mem_singleton.1 hp]
      exact Nat.le_trans (Nat.le_trans h.bel.size hb2.size) hb5.size
  · rw [List.map_append]
    refine List.nodup_append.2 ⟨h.nodup, by simp, fun a ha b hb e => ?_⟩
    obtain ⟨p, hp, rfl⟩ := List.mem_map.1 ha
    simp only [List.map_cons, List.map_nil, List.mem_singleton] at hb
    have h1 := (Array.getElem?_eq_some_iff.1 (h.each p hp).row).1
    have h2 := hb2.size
    have h3 := hb5.size
    omega
  · rw [List.map_append, h.raws, Tq.readP_succ, ← hS]
    rfl
  · rw [Tq.readR_succ]
    exact src_turn (hr2.below b27) (hr5.turn (T5.of_below b27)) T79
/-- A table as it is read: its pieces not asked yet. -/
structure TRaw (B : Nat) (w : World) (tb : Nat) (ps : List PE) (F : List UInt8) : Prop where
  tab : ∃ pa pc fa fc, w.heap[tb]? = some (.cells #[.slice pa ps.length pc, .slice fa F.length fc] 67) ∧ RSrc ptrKind w pa ps.length pc (ps.map (·.blk)) ∧ Src w fa F.length fc F ∧ In5 w fa ∧ (∀ ad, pa = some ad → ∃ cur, w.heap[ad.block]? = some (.cells cur 68 (0, 0)))
  each : ∀ p ∈ ps, PRaw w p
  far : ∀ p ∈ ps, B ≤ p.blk
  nodup : (ps.map (·.blk)).Nodup
  ge : B ≤ tb
theorem RdT.last {w : World} {tb : Nat} {R0 : List UInt8} {k : Nat} {ps : List PE} {v : Value} {ra : Option Addr} {M rc : Nat} {wr W5 : World} (h : RdT w tb R0 k ps v ra M rc wr) (htb : w.heap.size ≤ tb) (hb : Below wr.heap.size wr W5) {F : List UInt8} {fa : Option Addr} {fc : Nat} (hs : Src W5 fa F.length fc F) (h5 : In5 W5 fa) :
    W5.heap[tb]? = some (.cells #[v, .slice none 0 0] 67) ∧ TRaw w.heap.size (W5.setCell ⟨tb, 1, none⟩ (.slice fa F.length fc)) tb ps F ∧ Below w.heap.size w (W5.setCell ⟨tb, 1, none⟩ (.slice fa F.length fc)) := by
  have t5 : W5.heap[tb]? = some (.cells #[v, .slice none 0 0] 67) := (hb.block _ (Array.getElem?_eq_some_iff.1 h.tab).1).trans h.tab
  have T : T5 W5 (W5.setCell ⟨tb, 1, none⟩ (.slice fa F.length fc)) := fun g cur fr hc => Below.heap_setCell _ _ _ g (fun e => by rw [show g = tb from e, t5] at hc; cases hc)
  have r5 := own_block h.row (fun g hg => hb.block g (own_size h.row hg))
  have r6 : (W5.setCell ⟨tb, 1, none⟩ (.slice fa F.length fc)).ownsRow w.heap.size 68 1 v ps.length (rv ptrKind (ps.map (·.blk))) := own_block r5 (fun g hg => Below.heap_setCell _ _ _ g (fun e => by
    obtain ⟨cur, hc⟩ := own_tag r5 hg
    rw [show g = tb from e, t5] at hc
    cases hc))
  obtain ⟨pa, pc, rfl, hR, _⟩ := RSrc.own ptrKind_ok r6 (fun _ _ => trivial)
  refine ⟨t5, ⟨⟨pa, pc, fa, fc, set_row t5 1 _, hR, src_turn hs h5 T, h5.turn T, fun ad had => ?_⟩, fun p hp => ?_, h.far, h.nodup, htb⟩, (h.bel.trans (hb.mono h.bel.size)).setCell (p := ⟨tb, 1, none⟩) htb _⟩
  · subst had
    exact own_tag r6 rfl
  · have h1 := (h.each p hp).below hb
    refine h1.turn T (Below.heap_setCell _ _ _ _ (fun e => ?_))
    have h2 := h1.row
    rw [show p.blk = tb from e, t5] at h2
    cases h2
set_option maxHeartbeats 4000000 in
set_option maxRecDepth 100000 in
theorem read_any (ao : Option Addr) (m c : Nat) (b : List UInt8) (w : World) (hm : m ≤ 140737488355328) (hs : Src w ao m c b) :
    Calls Tryz.prog 39 #[.slice ao m c] w fun e w' => ∃ tb, e = .returned (.pointer (some ⟨tb, 0, none⟩)) ∧ ∃ ps, TRaw w.heap.size w' tb ps (Tq.filtOf b) ∧ ps.map (·.raw) = Tq.pieces b ∧ Below w.heap.size w w' := by
  obtain ⟨i0, hi0, hz0, hz1, hz2⟩ := info_parts22q infoP
  have hlen := hs.len
  obtain ⟨W1, hW1⟩ : ∃ W1, w.alloc (.cells #[.slice none 0 0, .slice none 0 0] 67) = W1 := ⟨_, rfl⟩
  have b1 : Hid (Below w.heap.size w W1) := by rw [← hW1]; exact (Below.refl _ _).alloc (Nat.le_refl _) _
  have g1 : Hid (W1.heap[w.heap.size]? = some (.cells #[.slice none 0 0, .slice none 0 0] 67)) := by rw [← hW1]; exact heap_alloc_new w _
  have HS := keep (hs.below b1.out)
  have hcap := hs.cap
  have hnil := hs.nil
  clear hs
  go_enter Tryz.func39, Tryz.ntmps39
  have B4 : Hid (∀ (a2 : Option Addr) (m2 c2 : Nat), Src W1 a2 m2 c2 (b.drop 4) → Calls Tryz.prog 72 #[.slice a2 m2 c2] W1 (TookN W1 (nOf (b.drop 4)) (rOf (b.drop 4)) (eOf (b.drop 4)))) := fun a2 m2 c2 h => takeNum_own a2 m2 c2 (b.drop 4) W1 (by have := h.len; rw [List.length_drop, hlen] at this; omega) h
  have HPN : Hid (Tq.pn b = min (nOf (b.drop 4)) 8) := rfl
  have HPC : Hid (Tq.pieces b = Tq.readP (Tq.pn b) (rOf (b.drop 4))) := rfl
  have HFO : Hid (Tq.filtOf b = Bq.tS (Tq.readR (Tq.pn b) (rOf (b.drop 4))) ((Tq.readR (Tq.pn b) (rOf (b.drop 4))).length : Nat)) := rfl
  have RL : Hid ((rOf (b.drop 4)).length ≤ 140737488355328) := by
    have h1 := Bq.rOf_len (b.drop 4)
    rw [List.length_drop, hlen] at h1
    show _ ≤ _
    omega
  have NL : Hid (nOf (b.drop 4) < 4611686018427387904) := Bq.nOf_le _
  obtain ⟨N, hN⟩ : ∃ N, nOf (b.drop 4) = N := ⟨_, rfl⟩
  obtain ⟨R, hR⟩ : ∃ R, rOf (b.drop 4) = R := ⟨_, rfl⟩
  obtain ⟨E, hE⟩ : ∃ E, eOf (b.drop 4) = E := ⟨_, rfl⟩
  rw [hN, hR, hE] at B4
  rw [hN] at HPN NL
  rw [hR] at HPC HFO RL
  clear hN hR hE
  unfold TookN at B4
  go_upto_region 2 with fail
  refine region_share (fun a a' w' => ∃ (v19 v20 : Value) (a2 : Option Addr) (c2 : Nat), a' = sets a [(16, .slice ao m c), (17, .slice ao m c), (18, .int .i64 (m : Int)), (19, v19), (20, v20), (21, .tuple #[.int .i64 (N : Int), .slice a2 R.length c2, .int .i64 E]), (15, .tuple #[.int .i64 (N : Int), .slice a2 R.length c2, .int .i64 E]), (0x16, .int .i64 (N : Int)), (23, .slice a2 R.length c2), (24, .int .i64 E), (4, .int .i64 (N : Int)), (5, .slice a2 R.length c2), (6, .int .i64 E)] ∧ Src w' a2 R.length c2 R ∧ In5 w' a2 ∧ Below W1.heap.size W1 w') ?_ ?_
  · have X1 : Hid (m ≤ 4 → ∀ (a2 : Option Addr) (c2 : Nat), (a2 = none → c2 = 0) → Src W1 a2 0 c2 (b.drop 4)) := fun h a2 c2 hc => by
      rw [List.drop_eq_nil_of_le (by omega)]
      exact Src.empty hc
    have NIL := keep hnil
    have LE := keep hlen
    clear hlen
    by_cases h3 : m < 4
    · have e1 : (m : Int) < 4 := by omega
      have X3 := keep (X1.out (by omega))
      by_cases hmc : m = c
      · subst hmc
        have X2 := keep (X3.out ao 0 (fun _ => rfl))
        clear X1 X3 h3 hcap hnil
        go_wp2_with fail
        refine (B4.out _ _ _ X2.out).mono ?_
        rintro e w2 ⟨a2, c2, rfl, hs2, h52, hb2⟩
        have S2 := keep hs2
        have I2 := keep h52
        have B2 := keep hb2
        clear hs2 h52 hb2
        go_wp2
        exact ⟨_, _, a2, c2, (by simp only [sets, Act.put, List.setIfInBounds_toArray, List.set_cons_zero, List.set_cons_succ]; all_goals rfl), S2.out, I2.out, B2.out⟩
      · have X2 : Hid (Src W1 (Option.map (fun x => x.add m) ao) 0 (c - m) (b.drop 4)) := X3.out _ _ (fun h => by
          have h1 : ao = none := by simpa using h
          have := (NIL.out h1).2
          omega)
        have hcm : ¬ c = m := fun e => hmc e.symm
        clear X1 X3 h3 hnil
        go_wp2_with fail
        refine (B4.out _ _ _ X2.out).mono ?_
        rintro e w2 ⟨a2, c2, rfl, hs2, h52, hb2⟩
        have S2 := keep hs2
        have I2 := keep h52
        have B2 := keep hb2
        clear hs2 h52 hb2
        go_wp2
        exact ⟨_, _, a2, c2, (by simp only [sets, Act.put, List.setIfInBounds_toArray, List.set_cons_zero, List.set_cons_succ]; all_goals rfl), S2.out, I2.out, B2.out⟩
    · have e1 : ¬ (m : Int) < 4 := by omega
      have e2 : (4 : Int) ≤ (m : Int) := by omega
      by_cases hmc : c = 4
      · subst hmc
        obtain rfl : m = 4 := by omega
        have X2 := keep (X1.out (by omega) ao 0 (fun _ => rfl))
        clear X1 h3 hcap hnil e1 e2
        go_wp2_with fail
        refine (B4.out _ _ _ X2.out).mono ?_
        rintro e w2 ⟨a2, c2, rfl, hs2, h52, hb2⟩
        have S2 := keep hs2
        have I2 := keep h52
        have B2 := keep hb2
        clear hs2 h52 hb2
        go_wp2
        exact ⟨_, _, a2, c2, (by simp only [sets, Act.put, List.setIfInBounds_toArray, List.set_cons_zero, List.set_cons_succ]; all_goals rfl), S2.out, I2.out, B2.out⟩
      · obtain ⟨bb, off, rfl, _, _⟩ := HS.out.form (by omega)
        have X2 : Hid (Src W1 (some ⟨bb, off + 4, none⟩) (m - 4) (c - 4) (b.drop 4)) := by
          have h1 := HS.out.tail 4 (by omega)
          rw [Option.map_some, Addr.add_mid] at h1
          exact h1
        clear X1 h3 hnil
        go_wp2_with fail
        refine (B4.out _ _ _ X2.out).mono ?_
        rintro e w2 ⟨a2, c2, rfl, hs2, h52, hb2⟩
        have S2 := keep hs2
        have I2 := keep h52
        have B2 := keep hb2
        clear hs2 h52 hb2
        go_wp2
        exact ⟨_, _, a2, c2, (by simp only [sets, Act.put, List.setIfInBounds_toArray, List.set_cons_zero, List.set_cons_succ]; all_goals rfl), S2.out, I2.out, B2.out⟩
  · rintro a' w2 ⟨v19, v20, a2, c2, rfl, hs2, h52, hb2⟩
    simp only [sets, Act.put, List.setIfInBounds_toArray, List.set_cons_zero, List.set_cons_succ]
    have I2 : Hid (RdT w w.heap.size R 0 [] (.slice none 0 0) a2 R.length c2 w2) := ⟨(hb2.block _ (Array.getElem?_eq_some_iff.1 g1.out).1).trans g1.out, World.ownsRow_nil _ _ _ _, (fun p hp => by cases hp), (fun p hp => by cases hp), List.nodup_nil, rfl, hs2, b1.out.trans (hb2.mono b1.out.size)⟩
    clear hs2 h52 hb2
    go_upto_region 3 with fail
    obtain ⟨K, hK⟩ : ∃ K, Tq.pn b = K := ⟨_, rfl⟩
    rw [hK] at HPN HPC HFO
    have hK8 : K ≤ 8 := by have := HPN.out; omega
    clear hK
    refine region_share (fun a a' w' => a' = sets a [(25, .int .i64 (N : Int)), (26, .int .i64 (K : Int)), (27, .int .i64 0)] ∧ w' = w2) ?_ ?_
    · have hKN := HPN.out
      by_cases h8 : 8 < N
      · have h8i : (8 : Int) < (N : Int) := by omega
        obtain rfl : K = 8 := by omega
        clear hKN
        go_wp2
        exact ⟨(by simp only [sets, Act.put, List.setIfInBounds_toArray, List.set_cons_zero, List.set_cons_succ]; all_goals rfl), rfl⟩
      · have h8i : ¬ (8 : Int) < (N : Int) := by omega
        obtain rfl : K = N := by omega
        clear hKN
        go_wp2
        exact ⟨(by simp only [sets, Act.put, List.setIfInBounds_toArray, List.set_cons_zero, List.set_cons_succ]; all_goals rfl), rfl⟩
    · rintro a' w' ⟨rfl, rfl⟩
      simp only [sets, Act.put, List.setIfInBounds_toArray, List.set_cons_zero, List.set_cons_succ]
      go_wp2
      go_loopw [5, 27] (fun vr i wr => ∃ (k : Nat) (ps : List PE) (v : Value) (ra : Option Addr) (M rc : Nat), k ≤ K ∧ vr = .slice ra M rc ∧ i = .int .i64 (k : Int) ∧ Hid (RdT w w.heap.size R k ps v ra M rc wr)) (fun _ i _ => K - (intOf i).toNat)
      case atStart => exact ⟨0, [], _, a2, R.length, c2, Nat.zero_le _, rfl, rfl, I2.out⟩
      case round =>
        obtain ⟨k, ps, v, ra, M, rc, hk, rfl, rfl, hI⟩ := hrel
        clear I2
        have hM := hI.out.rest.len
        have hML : M ≤ 140737488355328 := by have := Tq.readR_len k R; have := RL.out; omega
        by_cases hkK : k < K
        · have ll : (k : Int) < (K : Int) := by omega
          have HI := keep hI.out
          have TT := keep (takeText_own ra M rc (Tq.readR k R) (M : Int) wr hML hI.out.rest)
          have hpl := hI.out.len
          have TAB := keep hI.out.tab
          have ROW := keep hI.out.row
          have BEL := keep hI.out.bel
          obtain ⟨S, hS⟩ : ∃ S, Bq.tS (Tq.readR k R) (M : Int) = S := ⟨_, rfl⟩
          obtain ⟨Z, hZ⟩ : ∃ Z, Bq.tR (Tq.readR k R) (M : Int) = Z := ⟨_, rfl⟩
          rw [hS, hZ] at TT
          have H_S : Hid (S = Bq.tS (Tq.readR k R) ((Tq.readR k R).length : Nat)) := by show _ = _; rw [hM]; exact hS.symm
          have H_Z : Hid (Z = Bq.tR (Tq.readR k R) ((Tq.readR k R).length : Nat)) := by show _ = _; rw [hM]; exact hZ.symm
          clear hI hM hZ hS
          unfold TookS at TT
          go_wp2_with fail
          refine TT.out.mono ?_
          rintro e w4 ⟨a4, c4, E4, rfl, hs4, h54, hb4⟩
          have cv := conv_str S S.length rfl w4
          obtain ⟨kS, hkS⟩ : ∃ kS, grownCap w4 S.length 0 5 = kS := ⟨_, rfl⟩
          have S5 : Hid (Src (Lib.bytesWorld w4 5 ⟨S.toArray⟩) (some ⟨w4.heap.size, 0, none⟩) S.length kS S) := by rw [← hkS]; exact Src.converted w4 S S.length rfl
          have b5 := keep (below_bytesWorld w4 ⟨S.toArray⟩)
          have n5 := keep (in5_conv w4 ⟨S.toArray⟩)
          rw [hkS] at cv
          obtain ⟨W5, hW5⟩ : ∃ W5, Lib.bytesWorld w4 5 ⟨S.toArray⟩ = W5 := ⟨_, rfl⟩
          rw [hW5] at cv S5 b5 n5
          clear hkS hW5
          have HS4 : Hid (Src w4 a4 (Bq.tR (Tq.readR k R) ((Tq.readR k R).length : Nat)).length c4 (Bq.tR (Tq.readR k R) ((Tq.readR k R).length : Nat))) := by rw [← H_Z.out]; exact hs4
          have H54 := keep h54
          have HB4 := keep hb4
          have c4' : w4.cell? ⟨w.heap.size, 0, none⟩ = some v := below_cell hb4 (cell_of_row _ _ _ _ _ _ TAB.out)
          have B5 := keep (hb4.trans (b5.out.mono hb4.size))
          have c5 : W5.cell? ⟨w.heap.size, 0, none⟩ = some v := below_cell B5.out (cell_of_row _ _ _ _ _ _ TAB.out)
          clear hs4 h54 hb4 TT
          obtain ⟨W7, hW7⟩ : ∃ W7 : World, ((W5.alloc (Obj.cells #[.int .u32 0, .int .i32 0, .int .u32 0, .slice (some ⟨w4.heap.size, 0, none⟩) S.length kS, .slice none 0 0] 102)).alloc (Obj.cells #[.pointer (some ⟨W5.heap.size, 0, none⟩)] 68)) = W7 := ⟨_, rfl⟩
          have b7 : Hid (Below wr.heap.size wr W7) := by rw [← hW7]; exact (B5.out.alloc B5.out.size _).alloc (by have := B5.out.size; simp; omega) _
          have R7 := keep (own_block ROW.out (fun g hg => b7.out.block g (own_size ROW.out hg)))
          have rc7 : Hid (∀ j u, (ptrKind.vals W5.heap.size)[j]? = some u → W7.cell? ((⟨W5.heap.size + 1, 0, none⟩ : Addr).add j) = some u) := by
            rw [← hW7]
            have := rec_cells (k := ptrKind) (W5.alloc (Obj.cells #[.int .u32 0, .int .i32 0, .int .u32 0, .slice (some ⟨w4.heap.size, 0, none⟩) S.length kS, .slice none 0 0] 102)) 68 W5.heap.size
            rw [World.size_alloc] at this
            exact this
          have HKW : Hid (w.heap.size ≤ W7.heap.size) := Nat.le_trans BEL.out.size b7.out.size
          have KP := keep hpl
          clear hpl
          have HG7 := keep hW7
          go_wp2_with (at_builtin; go_loud (refine wpList_append_rec ptrKind_ok rfl _ _ 65 68 rfl w.heap.size i0 _ 8 Tryz.underlying65 hi0 hz0 hz1 hz2 rfl v ps.length _ rfl R7.out _ 1 W5.heap.size rfl rc7.out (by have := KP.out; unfold maxLen; omega) (by have := KP.out; omega) HKW.out ?_); intro v8 w8 ho8 hg8; obtain ⟨g8, k8, rfl⟩ := own_form ho8; have N8 := keep (RdT.next HI.out (Nat.le_refl _) HB4.out H_S.out b5.out S5.out n5.out HS4.out H54.out ho8 (by rw [HG7.out]; exact hg8)); have t8 := N8.out.1; have d8 : w8.cell? ⟨w.heap.size, 0, none⟩ = some v := cell_of_row _ _ _ _ _ _ t8; have f8 : w8.frozen? ⟨w.heap.size, 0, none⟩ = false := (by simp [World.frozen?, t8]); clear ho8 hg8 t8)
          go_roundw
          case rel => exact ⟨k + 1, _, _, _, _, _, by omega, by rw [H_Z.out], by first | rfl | go_num, N8.out.2⟩
          case measure => simp [intOf]; omega
        · obtain rfl : k = K := by omega
          have ll : ¬ (k : Int) < (k : Int) := by omega
          have HI := keep hI.out
          have TT := keep (takeText_own ra M rc (Tq.readR k R) (M : Int) wr hML hI.out.rest)
          have TAB := keep hI.out.tab
          have H_S : Hid (Tq.filtOf b = Bq.tS (Tq.readR k R) (M : Int)) := by show _ = _; rw [HFO.out, hM]
          rw [← H_S.out] at TT
          have H_R : Hid (ps.map (·.raw) = Tq.pieces b) := by show _ = _; rw [HPC.out]; exact hI.out.raws
          obtain ⟨S, hS⟩ : ∃ S, Tq.filtOf b = S := ⟨_, rfl⟩
          obtain ⟨Z, hZ⟩ : ∃ Z, Bq.tR (Tq.readR k R) (M : Int) = Z := ⟨_, rfl⟩
          rw [hS, hZ] at TT
          have HSF := keep hS
          clear hI hM hZ hS
          unfold TookS at TT
          go_wp2_with fail
          refine TT.out.mono ?_
          rintro e w4 ⟨a4, c4, E4, rfl, _, _, hb4⟩
          have cv := conv_str S S.length rfl w4
          obtain ⟨kS, hkS⟩ : ∃ kS, grownCap w4 S.length 0 5 = kS := ⟨_, rfl⟩
          have S5 : Hid (Src (Lib.bytesWorld w4 5 ⟨S.toArray⟩) (some ⟨w4.heap.size, 0, none⟩) S.length kS S) := by rw [← hkS]; exact Src.converted w4 S S.length rfl
          have b5 := keep (below_bytesWorld w4 ⟨S.toArray⟩)
          have n5 := keep (in5_conv w4 ⟨S.toArray⟩)
          rw [hkS] at cv
          obtain ⟨W5, hW5⟩ : ∃ W5, Lib.bytesWorld w4 5 ⟨S.toArray⟩ = W5 := ⟨_, rfl⟩
          rw [hW5] at cv S5 b5 n5
          clear hkS hW5
          have L5 := keep (HI.out.last (Nat.le_refl _) (hb4.trans (b5.out.mono hb4.size)) S5.out n5.out)
          have t5 := L5.out.1
          have d5 : W5.cell? ⟨w.heap.size, 1, none⟩ = some (.slice none 0 0) := cell_of_row _ _ _ _ _ _ t5
          have f5 : W5.frozen? ⟨w.heap.size, 1, none⟩ = false := by simp [World.frozen?, t5]
          clear t5 hb4 TT
          go_wp2
          go_ret
          exact ⟨_, rfl, ps, by rw [HSF.out]; exact L5.out.2.1, H_R.out, L5.out.2.2⟩
end Go.Proofs.YtjblicgbdecbcaaGreat
