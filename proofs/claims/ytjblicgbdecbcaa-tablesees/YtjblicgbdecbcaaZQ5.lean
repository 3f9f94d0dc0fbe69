/- The walks of table's putSum and Build. -/
import Derived.Test.YtjblicgbdecbcaaZQ4j
import Derived.Test.YtjblicgbdecbcaaZJ6j
import Derived.Test.YtjblicgbdecbcaaZB5
import Derived.Test.YtjblicgbdecbcaaZJc
namespace Go.Proofs.Ytjblicgbdecbcaa
open Go.RowKit
open Sk (Ent)

set_option maxHeartbeats 2000000 in
set_option maxRecDepth 100000 in
theorem tputSum_any (B : Nat) (ao : Option Addr) (m c : Nat) (l : List UInt8) (w : World) (hm : m ≤ 1000000) (hB : B ≤ w.heap.size) (ho : w.ownsRow B 5 1 (.slice ao m c) m (bv l)) :
    Calls Try.prog 29 #[.slice ao m c] w fun e w' => ∃ v, e = .returned v ∧ w'.ownsRow B 5 1 v (m + 4) (bv (summed l)) ∧ Below B w w' := by
  obtain ⟨i0, hi, hz0, hz1, hz2⟩ := info_parts info5
  obtain ⟨_, _, e1, hs, _⟩ := Src.of_own ho
  cases e1
  have O0 := keep ho
  have KC := keep (crc_any ao m c l w (by omega) hs)
  obtain ⟨X, hX⟩ : ∃ X, crc l = X := ⟨_, rfl⟩
  have HX := keep hX
  rw [hX] at KC
  clear hX ho hs
  have hXl := X.toNat_lt
  obtain ⟨y0, hy0⟩ : ∃ y, UInt8.ofNat (X.toNat / 16777216) = y := ⟨_, rfl⟩
  obtain ⟨y1, hy1⟩ : ∃ y, UInt8.ofNat (X.toNat / 65536) = y := ⟨_, rfl⟩
  obtain ⟨y2, hy2⟩ : ∃ y, UInt8.ofNat (X.toNat / 256) = y := ⟨_, rfl⟩
  obtain ⟨y3, hy3⟩ : ∃ y, UInt8.ofNat X.toNat = y := ⟨_, rfl⟩
  have g0 : Hid (X.toNat / 16777216 % 256 = y0.toNat) := by rw [← hy0, UInt8.toNat_ofNat']; exact rfl
  have g1 : Hid (X.toNat / 65536 % 256 = y1.toNat) := by rw [← hy1, UInt8.toNat_ofNat']; exact rfl
  have g2 : Hid (X.toNat / 256 % 256 = y2.toNat) := by rw [← hy2, UInt8.toNat_ofNat']; exact rfl
  have g3 : Hid (X.toNat % 256 = y3.toNat) := by rw [← hy3, UInt8.toNat_ofNat']; exact rfl
  have HB := keep (be4 X)
  rw [hy0, hy1, hy2, hy3] at HB
  have HXL := keep hXl
  clear hy0 hy1 hy2 hy3 hXl
  go_enter Try.func29, Try.ntmps29
  go_wp2_with fail
  refine KC.out.mono ?_
  rintro e w5 ⟨rfl, hb5⟩
  have O5 := keep (own_below O0.out hb5)
  have b5 := keep hb5
  have b5' := keep (hb5.mono hB)
  clear hb5
  have hB5 : B ≤ w5.heap.size := Nat.le_trans hB b5.out.size
  go_wp2_with (at_builtin; refine wpList_append_src rfl _ _ 24 rfl B i0 _ Try.underlying24 hi hz0 hz1 hz2 rfl _ m l rfl (by exact O5.out.alloc _) _ 4 4 [y0, y1, y2, y3] rfl (Src.built4 _ _ _ _ _ _ _ _ _ (by have h1 := g0.out; have h2 := HXL.out; unfold U; omega) (by have h1 := g1.out; have h2 := HXL.out; unfold U; omega) (by have h1 := g2.out; have h2 := HXL.out; unfold U; omega) (by have h1 := g3.out; have h2 := HXL.out; unfold U; omega)) (by omega) (le_alloc hB5 _) ?_; intro v6 w6 ho6 hg6; have O6 := keep ho6; have b6 := keep ((b5'.out.alloc hB5 _).grown hg6 (le_alloc hB5 _) (fun j hj => (O5.out.lt j hj).1)); clear ho6 hg6)
  go_ret
  refine ⟨_, rfl, ?_, b6.out⟩
  unfold summed
  rw [HX.out, HB.out]
  exact O6.out
/-- Build's answer. -/
def TBuilt (w : World) (L : List Ent) (e : Ending) (w' : World) : Prop :=
  (Tq.tok L = true ∧ ∃ a c, e = .returned (.tuple #[.slice a (Tq.tab L).length c, .int .i64 0]) ∧ w'.ownsRow w.heap.size 5 1 (.slice a (Tq.tab L).length c) (Tq.tab L).length (bv (Tq.tab L)) ∧ Below w.heap.size w w') ∨
  (Tq.tok L = false ∧ e = .returned (.tuple #[.slice none 0 0, .int .i64 1]) ∧ Below w.heap.size w w')
theorem tbuilt_no {w w' : World} {L : List Ent} (h : Tq.tok L = false) (hb : Below w.heap.size w w') : TBuilt w L (.returned (.tuple #[.slice none 0 0, .int .i64 1])) w' := .inr ⟨h, rfl, hb⟩
theorem tbuilt_yes {w w' : World} {L : List Ent} {a : Option Addr} {n c : Nat} (h : Tq.tok L = true) (ho : w'.ownsRow w.heap.size 5 1 (.slice a n c) n (bv (Tq.tab L))) (hb : Below w.heap.size w w') : TBuilt w L (.returned (.tuple #[.slice a n c, .int .i64 0])) w' := by
  have hn : (Tq.tab L).length = n := by have := ho.1; rw [bv_length] at this; omega
  subst hn
  exact .inl ⟨h, a, c, rfl, ho, hb⟩
/-- The bytes of the first k blocks. -/
def upto (L : List Ent) (k : Nat) : List UInt8 := Tq.swt ++ (num (Tq.cnt L.length) ++ Tq.blksB L k)
theorem upto_succ (L : List Ent) (k : Nat) : upto L (k + 1) = upto L k ++ (num (Bq.blk (Tq.grp L k)).length ++ Bq.blk (Tq.grp L k)) := by
  unfold upto
  rw [Tq.blksB_succ, Tq.txtB]
  simp only [List.append_assoc]
theorem upto_len {L : List Ent} (h : Tq.tok L = true) {k : Nat} (hk : k ≤ Tq.cnt L.length) : (upto L k).length ≤ 80000 := by
  have h1 := Tq.blksB_len h k hk
  have h2 := Tq.cnt_le h
  have h3 := Bq.num_len (n := Tq.cnt L.length) (by omega)
  simp only [upto, Tq.swt, List.length_append, List.length_cons, List.length_nil]
  omega
/-- How far Build has come: k blocks are laid. -/
structure TBuildI (w : World) (L : List Ent) (k : Nat) (a : Option Addr) (c : Nat) (Bs : List UInt8) (wr : World) : Prop where
  bytes : Bs = upto L k
  src : Src wr a Bs.length c Bs
  own : wr.ownsRow w.heap.size 5 1 (.slice a Bs.length c) Bs.length (bv Bs)
  bel : Below w.heap.size w wr
set_option maxHeartbeats 4000000 in
set_option maxRecDepth 100000 in
theorem tbuild_any (ao : Option Addr) (n c : Nat) (es : List EV) (w : World) (hsrc : RSrc entKind w ao n c es) (hMAY : ∀ y ∈ es, y.e.key.length ≤ 9223372036854775807 ∧ y.e.val.length ≤ 9223372036854775807) :
    Calls Try.prog 8 #[.slice ao n c] w (TBuilt w (es.map (·.e))) := by
  have CK := keep (tcheck_any ao n c es w hsrc hMAY)
  have SRC := keep hsrc
  have MAY := keep hMAY
  obtain ⟨L, hL⟩ : ∃ L, es.map (·.e) = L := ⟨_, rfl⟩
  rw [hL] at CK ⊢
  have hlen : L.length = n := by rw [← hL, List.length_map]; exact hsrc.len
  have HL := keep hL
  have hcap := hsrc.cap
  clear hsrc hMAY hL
  cases hok : Tq.tok L with
  | false =>
    have hc : tchk L = 1 := by unfold tchk; rw [hok]; rfl
    rw [hc] at CK
    have OK := keep hok
    clear hok hc hlen
    go_enter Try.func8, Try.ntmps8
    go_wp2_with fail
    refine CK.out.mono ?_
    rintro e w1 ⟨rfl, hb1⟩
    have b1 := keep hb1
    clear hb1
    go_wp2
    go_ret2
    exact tbuilt_no OK.out b1.out
  | true =>
    have hc : tchk L = 0 := by unfold tchk; rw [hok]; rfl
    rw [hc] at CK
    have OK := keep hok
    have h8 := Tq.tok_len hok
    rw [hlen] at h8
    have n1 : 1 ≤ n := h8.1
    have n8 : n ≤ 64 := h8.2
    have HLN := keep hlen
    have CNT := keep (Tq.cnt_le hok)
    rw [hlen] at CNT
    clear hok hc hlen h8
    obtain ⟨b, off, rfl, _, _⟩ := SRC.out.form entKind_ok (by omega)
    go_enter Try.func8, Try.ntmps8
    go_wp2_with fail
    refine CK.out.mono ?_
    rintro e w1 ⟨rfl, hb1⟩
    have b1 := keep hb1
    clear hb1 CK
    go_wp2_with fail
    refine (chunk_any (some ⟨b, off, none⟩) n c w1).mono ?_
    rintro e w2 ⟨rfl, hw2⟩
    have b2 : Hid (Below w1.heap.size w1 w2) := by rw [hw2]; exact ((Below.refl _ _).alloc (Nat.le_refl _) _).alloc (by simp) _
    have CO : Hid _ := keep (collect_any w1.heap.size (w1.heap.size + 1) b off n c es w2 n1 n8 hcap (by rw [hw2]; exact cell_of_row _ _ _ _ _ _ ((Below.heap_alloc _ _ _ (by simp)).trans (heap_alloc_new w1 _)))
      (by
        have := heap_alloc_new (w1.alloc (.cells #[.slice (some ⟨b, off, none⟩) n c] 22)) (.cells #[.int .i64 8] 3)
        rw [World.size_alloc] at this
        rw [hw2]; exact cell_of_row _ _ _ _ _ _ this))
    have B2 := keep (b1.out.trans (b2.out.mono b1.out.size))
    clear hw2 b2
    obtain ⟨K, hK⟩ : ∃ K, Tq.cnt n = K := ⟨_, rfl⟩
    have HK := keep hK
    rw [hK] at CO CNT
    clear hK
    go_wp2_with fail
    refine CO.out.mono ?_
    rintro e w3 ⟨v, rfl, ho3, hb3⟩
    obtain ⟨va, vc, rfl, hR3, _⟩ := RSrc.own grpKind_ok ho3 (fun g hg => by
      obtain ⟨k, hk, rfl⟩ := List.mem_map.1 hg
      have hk := List.mem_range.1 hk
      refine grpE_held (SRC.out.below entKind_ok (B2.out.trans (hb3.mono B2.out.size))) (c := c) ?_
      have := HK.out
      unfold Tq.cnt at this
      omega)
    have R3 := keep hR3
    have B3 := keep (B2.out.trans (hb3.mono B2.out.size))
    clear ho3 hb3 hR3 CO
    have kc := conv_constS w3 #[.int .u8 83, .int .u8 87, .int .u8 84, .int .u8 49] 4 4
    simp only [List.size_toArray, List.length_cons, List.length_nil, Nat.reduceAdd] at kc
    obtain ⟨W4, hW4⟩ : ∃ W4, w3.alloc (.cells #[.int .u8 83, .int .u8 87, .int .u8 84, .int .u8 49] 5 (4, 5)) = W4 := ⟨_, rfl⟩
    have b4 : Hid (Below w3.heap.size w3 W4) := by rw [← hW4]; exact (Below.refl _ _).alloc (Nat.le_refl _) _
    have s4 : Hid (Src W4 (some ⟨w3.heap.size, 0, none⟩) 4 4 Tq.swt) := by
      rw [← hW4]
      refine Src.mk_bytes rfl (Nat.le_refl _) (fun i hi => ?_)
      rcases (show i = 0 ∨ i = 1 ∨ i = 2 ∨ i = 3 by omega) with rfl | rfl | rfl | rfl <;> (rw [cell_of_row _ _ _ _ _ _ (heap_alloc_new w3 _)]; rfl)
    have PN : Hid (Calls Try.prog 24 #[.slice (some ⟨w3.heap.size, 0, none⟩) 4 4, .int .i64 (K : Int)] W4 (Laid8 W4 (upto L 0))) := by
      have h1 := putNum_laid (W := W4) (n := K) (Below.refl _ _) (by omega) (by have := CNT.out; omega) s4.out
      have e : upto L 0 = Tq.swt ++ num K := by
        have h2 := HK.out
        have h3 := HLN.out
        unfold upto
        rw [h3, h2]
        simp [Tq.blksB, Tq.blks]
      rw [e]
      exact h1
    unfold Laid8 at PN
    go_wp2_with fail
    refine PN.out.mono ?_
    rintro e w5 ⟨a5, c5, rfl, hs5, ho5, hb5⟩
    have B4 := keep (B3.out.trans (b4.out.mono B3.out.size))
    have I5 : Hid (TBuildI w L 0 a5 c5 (upto L 0) w5) := ⟨rfl, hs5, own_base ho5 (fun g hg => Nat.le_trans B4.out.size (ho5.lt g hg).1), B4.out.trans (hb5.mono B4.out.size)⟩
    have B5 : Hid (Below w3.heap.size w3 w5) := b4.out.trans (hb5.mono b4.out.size)
    obtain ⟨U0, hU0⟩ : ∃ U0, upto L 0 = U0 := ⟨_, rfl⟩
    rw [hU0] at I5 ⊢
    clear hs5 ho5 hb5 PN hU0 hW4 kc
    have hK8 : K ≤ 8 := CNT.out.2
    have hK1 : 1 ≤ K := CNT.out.1
    have UL : Hid (∀ k, k ≤ K → (upto L k).length ≤ 80000) := fun k hk => upto_len OK.out (by rw [HLN.out, HK.out]; exact hk)
    go_wp2
    go_loopw [6, 26] (fun vb i wr => ∃ (k : Nat) (a : Option Addr) (c3 : Nat) (Bs : List UInt8), k ≤ K ∧ vb = .slice a Bs.length c3 ∧ i = .int .i64 (k : Int) ∧ Hid (TBuildI w L k a c3 Bs wr ∧ Below w3.heap.size w3 wr)) (fun _ i _ => K - (intOf i).toNat)
    case atStart => exact ⟨0, _, _, _, Nat.zero_le _, rfl, rfl, I5.out, B5.out⟩
    case round =>
      obtain ⟨k, a, c3, Bs, hk, rfl, rfl, hI⟩ := hrel
      clear I5 B5
      have HI := keep hI.out.1
      have HB := keep hI.out.2
      clear hI
      by_cases hkK : k < K
      · obtain ⟨vb, vo, rfl, _, hcells⟩ := R3.out.form grpKind_ok (by omega)
        have hg : ((List.range K).map (grpE b off n es))[k]? = some (grpE b off n es k) := by rw [List.getElem?_map, List.getElem?_range hkK]; rfl
        have hcell : wr.cell? ⟨vb, vo + k, none⟩ = some (.slice (some ⟨b, off + 8 * k * 4, none⟩) (gl n k) (gl n k)) := by
          have := hcells k _ hg 0 _ rfl
          have e : grpKind.size = 1 := rfl
          rw [e, Nat.mul_one, Nat.add_zero] at this
          exact belowc HB.out this
        have hkn : 8 * k < n := by have := HK.out; unfold Tq.cnt at this; omega
        have GH := keep (grpE_held (k := k) (SRC.out.below entKind_ok HI.out.bel) hkn)
        have BB := keep (build_any (some ⟨b, off + 8 * k * 4, none⟩) (gl n k) (gl n k) ((es.drop (8 * k)).take 8) wr GH.out (fun y hy => MAY.out y (List.mem_of_mem_drop (List.mem_of_mem_take hy))))
        have hGM : ((es.drop (8 * k)).take 8).map (·.e) = Tq.grp L k := by rw [List.map_take, List.map_drop, HL.out]; rfl
        rw [hGM] at BB
        have OKB := keep (Tq.grp_ok OK.out (k := k) (by rw [HLN.out, HK.out]; exact hkK))
        have US := keep (upto_succ L k)
        have UK := keep (UL.out k (by omega))
        have BLK := keep (Bq.blk_len OKB.out)
        obtain ⟨G, hG⟩ : ∃ G, Tq.grp L k = G := ⟨_, rfl⟩
        rw [hG] at BB OKB US BLK
        clear hG hGM hcells hg GH
        have ll : (k : Int) < (K : Int) := by omega
        have ll0 : (0 : Int) ≤ (k : Int) := by omega
        go_wp2_with fail
        refine BB.out.mono ?_
        rintro e w6 (⟨_, a6, c6, rfl, ho6, hb6⟩ | ⟨hno, _⟩)
        · obtain ⟨_, _, hv6, hS6, _⟩ := New.src ⟨ho6, hb6⟩
          cases hv6
          have cv := conv_src hS6
          have PT := keep (putText_laid (W := w6) (w := w6) (s := Bq.blk G) (Below.refl _ _) (by have := UK.out; have := BLK.out; have := HI.out.bytes; rw [this]; omega) (HI.out.src.below hb6))
          have HB6 := keep hb6
          obtain ⟨P, hP⟩ : ∃ P, Bs ++ (num (Bq.blk G).length ++ Bq.blk G) = P := ⟨_, rfl⟩
          have HP : Hid (P = upto L (k + 1)) := by show _ = _; rw [← hP, US.out, HI.out.bytes]
          rw [hP] at PT
          clear ho6 hb6 hS6 hP
          unfold Laid8 at PT
          go_wp2_with fail
          refine PT.out.mono ?_
          rintro e w7 ⟨a7, c7, rfl, hs7, ho7, hb7⟩
          have B7 := keep (HB6.out.trans (hb7.mono HB6.out.size))
          have BW := keep (HI.out.bel.trans (B7.out.mono HI.out.bel.size))
          have I7 : Hid (TBuildI w L (k + 1) a7 c7 P w7 ∧ Below w3.heap.size w3 w7) := ⟨⟨HP.out, hs7, own_base ho7 (fun g hg => Nat.le_trans (Nat.le_trans HI.out.bel.size HB6.out.size) (ho7.lt g hg).1), BW.out⟩, HB.out.trans (B7.out.mono HB.out.size)⟩
          clear hs7 ho7 hb7 cv
          go_wp2
          go_roundw
          case rel => exact ⟨k + 1, a7, c7, P, by omega, rfl, by first | rfl | go_num, I7.out⟩
          case measure => simp [intOf]; omega
        · have := OKB.out
          rw [hno] at this
          cases this
      · obtain rfl : k = K := by omega
        have ll : ¬ (k : Int) < (k : Int) := by omega
        have KO := keep (keysOf_any (some ⟨b, off, none⟩) n c es wr (SRC.out.below entKind_ok HI.out.bel) n8)
        rw [HL.out] at KO
        go_wp2_with fail
        refine KO.out.mono ?_
        rintro e w6 ⟨v6, rfl, bs, hI6⟩
        obtain ⟨ka, kcc, rfl, hR6, _⟩ := RSrc.own byteKind_ok hI6.row (fun e he => byteKind_ok.below (hI6.each e he) hI6.bel)
        have hsm : bs.length ≤ 64 := by have := hI6.len; omega
        have hks : bs.map (·.bytes) = Tq.tkeys L := by rw [hI6.keys]; show Tq.ks L n = Tq.ks L L.length; rw [HLN.out]
        have BLM := keep (bloomB_any ka bs.length kcc bs w6 (by omega) (fun e he => by
          have h1 : e.bytes ∈ Tq.tkeys L := by rw [← hks]; exact List.mem_map.2 ⟨e, he, rfl⟩
          obtain ⟨x, hx, hxe⟩ := Tq.tkeys_mem h1
          have h2 := (Bq.may_bounds (Tq.tok_may OK.out x hx)).2.1
          rw [← hxe]
          omega) hR6)
        rw [hks] at BLM
        have B6 := keep hI6.bel
        clear hI6 hR6 hks
        go_wp2_with fail
        refine BLM.out.mono ?_
        rintro e w7 ⟨v7, rfl, hN7⟩
        obtain ⟨a7, c7, rfl, hS7, _⟩ := hN7.src
        have cv := conv_src hS7
        have FL := keep (Tq.filt_len OK.out)
        have hfl : Bl.sizeOf bs.length = (Tq.filt L).length := by rw [← hS7.len]; rfl
        have B7 := keep (B6.out.trans (hN7.2.mono B6.out.size))
        have ULK := keep (UL.out k (Nat.le_refl _))
        have PT := keep (putText_laid (W := w7) (w := w7) (s := Tq.filt L) (Below.refl _ _) (by have := ULK.out; have := FL.out; have := HI.out.bytes; rw [this]; omega) (HI.out.src.below B7.out))
        obtain ⟨P, hP⟩ : ∃ P, Bs ++ (num (Tq.filt L).length ++ Tq.filt L) = P := ⟨_, rfl⟩
        have HP : Hid (P = Tq.traw L) := by
          show _ = _
          rw [← hP, HI.out.bytes]
          unfold upto Tq.traw Tq.txtB
          rw [HLN.out, HK.out]
          simp only [List.append_assoc]
        have PL : Hid (P.length ≤ 72300) := by show _ ≤ _; rw [HP.out]; exact Tq.traw_len OK.out
        rw [hP] at PT
        clear hN7 hS7 hP hfl
        have cv2 : (convert 24 9 (.slice a7 (Bl.sizeOf bs.length) c7)).run Try.prog w7 = .ok (.string ⟨(Tq.filt L).toArray⟩) w7 := cv
        clear cv
        unfold Laid8 at PT
        go_wp2_with fail
        refine PT.out.mono ?_
        rintro e w8 ⟨a8, c8, rfl, hs8, ho8, hb8⟩
        have BX := keep (HI.out.bel.trans (B7.out.mono HI.out.bel.size))
        have SU := keep (tputSum_any w.heap.size a8 P.length c8 P w8 (by have := PL.out; omega) (Nat.le_trans BX.out.size hb8.size) (own_base ho8 (fun g hg => Nat.le_trans BX.out.size (ho8.lt g hg).1)))
        have B8 := keep (BX.out.trans (hb8.mono BX.out.size))
        clear hs8 ho8 hb8
        go_wp2_with fail
        refine SU.out.mono ?_
        rintro e w9 ⟨v9, rfl, ho9, hb9⟩
        obtain ⟨a9, c9, rfl, _, _⟩ := Src.of_own ho9
        have O9 := keep ho9
        have B9 := keep (B8.out.trans hb9)
        clear ho9 hb9
        go_wp2
        go_ret2
        refine tbuilt_yes OK.out ?_ B9.out
        have e : Tq.tab L = summed P := by rw [HP.out]; rfl
        rw [e]
        exact O9.out
end Go.Proofs.Ytjblicgbdecbcaa
