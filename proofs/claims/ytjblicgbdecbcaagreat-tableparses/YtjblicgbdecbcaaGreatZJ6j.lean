/- The walks of block's putSum, and of the document's Summed. -/
/- The walk of block's Build. -/
import Derived.Test.YtjblicgbdecbcaaGreatZJ4
import Derived.Test.YtjblicgbdecbcaaGreatZXaj
import Derived.Test.YtjblicgbdecbcaaGreatZCrj
namespace Go.Proofs.YtjblicgbdecbcaaGreat
open Go.RowKit
open Sk (Ent)

theorem be4 (X : UInt32) : be 4 X.toNat = [UInt8.ofNat (X.toNat / 16777216), UInt8.ofNat (X.toNat / 65536), UInt8.ofNat (X.toNat / 256), UInt8.ofNat X.toNat] := by
  simp [be, List.range_succ]
theorem Src.built4 (w : World) (x0 x1 x2 x3 : Int) (y0 y1 y2 y3 : UInt8) (h0 : x0 = (y0.toNat : Int)) (h1 : x1 = (y1.toNat : Int)) (h2 : x2 = (y2.toNat : Int)) (h3 : x3 = (y3.toNat : Int)) : Src (w.alloc (.cells #[.int .u8 x0, .int .u8 x1, .int .u8 x2, .int .u8 x3] 5)) (some ⟨w.heap.size, 0, none⟩) 4 4 [y0, y1, y2, y3] := by
  subst h0
  subst h1
  subst h2
  subst h3
  refine ⟨rfl, Nat.le_refl _, (fun e => by cases e), fun ad had j u hu => ?_⟩
  cases had
  rw [Addr.add_mid, Nat.zero_add, cell_of_row _ _ _ _ _ _ (heap_alloc_new w _)]
  simpa [bv] using hu

theorem own_lower {w : World} {base base' n : Nat} {v : Value} {xs : List Value} (h : w.ownsRow base 5 1 v n xs) (hb : base' ≤ base) : w.ownsRow base' 5 1 v n xs := by
  refine ⟨h.1, ?_⟩
  rcases h.2 with h0 | ⟨g, cap, cur, e, hg, r⟩
  · exact .inl h0
  · exact .inr ⟨g, cap, cur, e, Nat.le_trans hb hg, r⟩
/-- Bytes, and their sum behind them. -/
def summed (l : List UInt8) : List UInt8 := l ++ be 4 (crc l).toNat
set_option maxHeartbeats 2000000 in
set_option maxRecDepth 100000 in
theorem putSum_any (B : Nat) (ao : Option Addr) (m c : Nat) (l : List UInt8) (w : World) (hm : m ≤ 1000000) (hB : B ≤ w.heap.size) (ho : w.ownsRow B 5 1 (.slice ao m c) m (bv l)) :
    Calls Tryz.prog 58 #[.slice ao m c] w fun e w' => ∃ v, e = .returned v ∧ w'.ownsRow B 5 1 v (m + 4) (bv (summed l)) ∧ Below B w w' := by
  obtain ⟨i0, hi, hz0, hz1, hz2⟩ := info_parts info5
  obtain ⟨_, _, e1, hs, _⟩ := Src.of_own ho
  cases e1
  have O0 := keep ho
  have KC := keep (crc_any ao m c l w (by omega) hs)
  obtain ⟨X, hX⟩ : ∃ X, crc l = X := ⟨_, rfl⟩
  have HX := keep hX
  rw [hX] at KC
  clear hX ho hs
  have hXl := X.toNat_lt
  obtain ⟨y0, hy0⟩ : ∃ y, UInt8.ofNat (X.toNat / 16777216) = y := ⟨_, rfl⟩
  obtain ⟨y1, hy1⟩ : ∃ y, UInt8.ofNat (X.toNat / 65536) = y := ⟨_, rfl⟩
  obtain ⟨y2, hy2⟩ : ∃ y, UInt8.ofNat (X.toNat / 256) = y := ⟨_, rfl⟩
  obtain ⟨y3, hy3⟩ : ∃ y, UInt8.ofNat X.toNat = y := ⟨_, rfl⟩
  have g0 : Hid (X.toNat / 16777216 % 256 = y0.toNat) := by rw [← hy0, UInt8.toNat_ofNat']; exact rfl
  have g1 : Hid (X.toNat / 65536 % 256 = y1.toNat) := by rw [← hy1, UInt8.toNat_ofNat']; exact rfl
  have g2 : Hid (X.toNat / 256 % 256 = y2.toNat) := by rw [← hy2, UInt8.toNat_ofNat']; exact rfl
  have g3 : Hid (X.toNat % 256 = y3.toNat) := by rw [← hy3, UInt8.toNat_ofNat']; exact rfl
  have HB := keep (be4 X)
  rw [hy0, hy1, hy2, hy3] at HB
  have HXL := keep hXl
  clear hy0 hy1 hy2 hy3 hXl
  go_enter Tryz.func58, Tryz.ntmps58
  go_wp2_with fail
  refine KC.out.mono ?_
  rintro e w5 ⟨rfl, hb5⟩
  have O5 := keep (own_below O0.out hb5)
  have b5 := keep hb5
  have b5' := keep (hb5.mono hB)
  clear hb5
  have hB5 : B ≤ w5.heap.size := Nat.le_trans hB b5.out.size
  go_wp2_with (at_builtin; refine wpList_append_src rfl _ _ 24 rfl B i0 _ Tryz.underlying24 hi hz0 hz1 hz2 rfl _ m l rfl (by exact O5.out.alloc _) _ 4 4 [y0, y1, y2, y3] rfl (Src.built4 _ _ _ _ _ _ _ _ _ (by have h1 := g0.out; have h2 := HXL.out; unfold U; omega) (by have h1 := g1.out; have h2 := HXL.out; unfold U; omega) (by have h1 := g2.out; have h2 := HXL.out; unfold U; omega) (by have h1 := g3.out; have h2 := HXL.out; unfold U; omega)) (by omega) (le_alloc hB5 _) ?_; intro v6 w6 ho6 hg6; have O6 := keep ho6; have b6 := keep ((b5'.out.alloc hB5 _).grown hg6 (le_alloc hB5 _) (fun j hj => (O5.out.lt j hj).1)); clear ho6 hg6)
  go_ret
  refine ⟨_, rfl, ?_, b6.out⟩
  unfold summed
  rw [HX.out, HB.out]
  exact O6.out
end Go.Proofs.YtjblicgbdecbcaaGreat
namespace Go.Proofs.YtjblicgbdecbcaaGreat
open Go.RowKit
open Sk (Ent)

/-- Build's answer. -/
def Built (w : World) (L : List Ent) (e : Ending) (w' : World) : Prop :=
  (Bq.okB L = true ∧ ∃ a c, e = .returned (.tuple #[.slice a (Bq.blk L).length c, .int .i64 0]) ∧ w'.ownsRow w.heap.size 5 1 (.slice a (Bq.blk L).length c) (Bq.blk L).length (bv (Bq.blk L)) ∧ Below w.heap.size w w') ∨
  (Bq.okB L = false ∧ e = .returned (.tuple #[.slice none 0 0, .int .i64 1]) ∧ Below w.heap.size w w')
theorem built_no {w w' : World} {L : List Ent} (h : Bq.okB L = false) (hb : Below w.heap.size w w') : Built w L (.returned (.tuple #[.slice none 0 0, .int .i64 1])) w' := .inr ⟨h, rfl, hb⟩
theorem built_yes {w w' : World} {L : List Ent} {a : Option Addr} {n c : Nat} (h : Bq.okB L = true) (ho : w'.ownsRow w.heap.size 5 1 (.slice a n c) n (bv (Bq.blk L))) (hb : Below w.heap.size w w') : Built w L (.returned (.tuple #[.slice a n c, .int .i64 0])) w' := by
  have hn : (Bq.blk L).length = n := by have := ho.1; rw [bv_length] at this; omega
  subst hn
  exact .inl ⟨h, a, c, rfl, ho, hb⟩
/-- How far Build has come: k entries are laid. -/
structure BuildI (w : World) (L : List Ent) (n k : Nat) (a : Option Addr) (c : Nat) (Bs : List UInt8) (ap : Option Addr) (A ac : Nat) (H : List UInt8) (wr : World) : Prop where
  bytes : Bs = num n ++ Bq.rowB [] (L.take k)
  last : H = Bq.lastK [] (L.take k)
  src : Src wr a Bs.length c Bs
  own : wr.ownsRow w.heap.size 5 1 (.slice a Bs.length c) Bs.length (bv Bs)
  key : Src wr ap A ac H
  small : A ≤ 64
  below : Below w.heap.size w wr
  len : Bs.length ≤ 9 + 1124 * k
theorem BuildI.next {w : World} {L : List Ent} {n k : Nat} {a : Option Addr} {c : Nat} {Bs : List UInt8} {ap : Option Addr} {A ac : Nat} {H : List UInt8} {wr W2 w3 : World} {x : Ent} (h : BuildI w L n k a c Bs ap A ac H wr) (hx : L[k]? = some x) (hm : Sk.may x = true) {a3 : Option Addr} {c3 : Nat} {B3 : List UInt8} (hB : B3 = Bs ++ Bq.entB H x) (hb2 : Below wr.heap.size wr W2) (hb3 : Below W2.heap.size W2 w3)
    (hs : Src w3 a3 B3.length c3 B3) (ho : w3.ownsRow W2.heap.size 5 1 (.slice a3 B3.length c3) B3.length (bv B3)) {kp : Option Addr} {K kc : Nat} (hk : Src w3 kp K kc x.key) (hK : K ≤ 64) : BuildI w L n (k + 1) a3 c3 B3 kp K kc x.key w3 where
  bytes := by
    rw [hB, h.bytes, h.last, List.take_add_one, hx]
    simp only [Option.toList_some, Bq.rowB_snoc, List.append_assoc]
  last := by
    rw [List.take_add_one, hx]
    simp only [Option.toList_some, Bq.lastK_snoc]
  src := hs
  own := own_base ho (fun g hg => Nat.le_trans (Nat.le_trans h.below.size hb2.size) (ho.lt g hg).1)
  key := hk
  small := hK
  below := (h.below.trans (hb2.mono h.below.size)).trans (hb3.mono (Nat.le_trans h.below.size hb2.size))
  len := by
    have := Bq.entB_len (k := H) hm
    have := h.len
    rw [hB, List.length_append]
    omega
set_option maxHeartbeats 2000000 in
set_option maxRecDepth 100000 in
theorem build_any (ao : Option Addr) (n c : Nat) (es : List EV) (w : World) (hsrc : RSrc entKind w ao n c es) (hMAY : ∀ y ∈ es, y.e.key.length ≤ 9223372036854775807 ∧ y.e.val.length ≤ 9223372036854775807) :
    Calls Tryz.prog 26 #[.slice ao n c] w (Built w (es.map (·.e))) := by
  have CK := keep (bcheck_any ao n c es w hsrc hMAY)
  have SRC := keep hsrc
  have HN := keep hsrc.len
  obtain ⟨L, hL⟩ : ∃ L, es.map (·.e) = L := ⟨_, rfl⟩
  rw [hL] at CK ⊢
  have hlen : L.length = n := by rw [← hL, List.length_map]; exact hsrc.len
  have HL := keep hL
  clear hsrc hMAY hL
  cases hok : Bq.okB L with
  | false =>
    have hc : bchk L = 1 := by unfold bchk; rw [hok]; rfl
    rw [hc] at CK
    have OK := keep hok
    clear hok hc hlen
    go_enter Tryz.func26, Tryz.ntmps26
    go_wp2_with fail
    refine CK.out.mono ?_
    rintro e w1 ⟨rfl, hb1⟩
    have b1 := keep hb1
    clear hb1
    go_wp2
    go_ret2
    exact built_no OK.out b1.out
  | true =>
    have hc : bchk L = 0 := by unfold bchk; rw [hok]; rfl
    rw [hc] at CK
    have OK := keep hok
    have h8 := Bq.okB_len hok
    rw [hlen] at h8
    have n1 : 1 ≤ n := h8.1
    have n8 : n ≤ 8 := h8.2
    have HLN := keep hlen
    clear hok hc hlen h8
    go_enter Tryz.func26, Tryz.ntmps26
    go_wp2_with fail
    refine CK.out.mono ?_
    rintro e w1 ⟨rfl, hb1⟩
    have b1 := keep hb1
    clear hb1 CK
    have PN : Hid (Calls Tryz.prog 25 #[.slice none 0 0, .int .i64 (n : Int)] w1 (Laid8 w1 (num n))) := putNum_laid (l := []) (Below.refl _ _) (by omega) (by omega) (src_nil w1)
    unfold Laid8 at PN
    go_wp2_with fail
    refine PN.out.mono ?_
    rintro e w2 ⟨a2, c2, rfl, hs2, ho2, hb2⟩
    have I2 : Hid (BuildI w L n 0 a2 c2 (num n) none 0 0 [] w2) := ⟨by simp [Bq.rowB], by simp [Bq.lastK], hs2, own_base ho2 (fun g hg => Nat.le_trans b1.out.size (ho2.lt g hg).1), src_nil w2, by omega, b1.out.trans (hb2.mono b1.out.size), by have := Bq.num_len (n := n) (by omega); omega⟩
    obtain ⟨N, hN⟩ : ∃ N, num n = N := ⟨_, rfl⟩
    rw [hN] at I2 ⊢
    clear hs2 ho2 hb2 PN hN b1
    go_wp2
    go_loopw [5, 6, 19] (fun vb va i wr => ∃ (k : Nat) (a : Option Addr) (c3 : Nat) (Bs : List UInt8) (ap : Option Addr) (A ac : Nat) (H : List UInt8), k ≤ n ∧ vb = .slice a Bs.length c3 ∧ va = .slice ap A ac ∧ i = .int .i64 (k : Int) ∧ Hid (BuildI w L n k a c3 Bs ap A ac H wr)) (fun _ _ i _ => n - (intOf i).toNat)
    case atStart => exact ⟨0, _, _, _, _, _, _, _, Nat.zero_le _, rfl, rfl, rfl, I2.out⟩
    case round =>
      obtain ⟨k, a, c3, Bs, ap, A, ac, H, hk, rfl, rfl, rfl, hI⟩ := hrel
      clear I2
      have HB := keep hI.out.below
      by_cases hkn : k < n
      · obtain ⟨b, off, rfl, _, _⟩ := SRC.out.form entKind_ok (by omega)
        obtain ⟨y, hy⟩ : ∃ y, es[k]? = some y := ⟨es[k]'(by rw [HN.out]; exact hkn), List.getElem?_eq_getElem _⟩
        obtain ⟨p0, p1, p2, p3⟩ := ent_cells (SRC.out.below entKind_ok HB.out) hy
        have hyh := (SRC.out.below entKind_ok HB.out).held y (List.mem_of_getElem? hy)
        have HY : Hid (L[k]? = some y.e) := by show _ = _; rw [← HL.out, List.getElem?_map, hy]; rfl
        have hmay := Bq.okB_may OK.out y.e (List.mem_of_getElem? HY.out)
        have hbd := Bq.may_bounds hmay
        obtain ⟨xkp, xkc, xvp, xvc, ⟨xkey, xseq, xgone, xval⟩⟩ := y
        simp only at p0 p1 p2 p3 HY hbd
        have HH := keep hyh
        have HM := keep hmay
        clear hy hyh hmay
        have j0 : (0 : Int) ≤ (k : Int) := by omega
        have ll : (k : Int) < (n : Int) := by omega
        obtain ⟨W2, hW2⟩ : ∃ W2, wr.alloc (.cells #[.slice xkp xkey.length xkc, .int .i64 xseq, .bool xgone, .slice xvp xval.length xvc] 37) = W2 := ⟨_, rfl⟩
        have b2 : Hid (Below wr.heap.size wr W2) := by rw [← hW2]; exact (Below.refl _ _).alloc (Nat.le_refl _) _
        have g2 : Hid (W2.heap[wr.heap.size]? = some (.cells #[.slice xkp xkey.length xkc, .int .i64 xseq, .bool xgone, .slice xvp xval.length xvc] 37)) := by rw [← hW2]; exact heap_alloc_new wr _
        have CF : Hid (∀ w', Below W2.heap.size W2 w' → w'.cell? ⟨wr.heap.size, 0, none⟩ = some (.slice xkp xkey.length xkc) ∧ w'.cell? ⟨wr.heap.size, 1, none⟩ = some (.int .i64 xseq) ∧ w'.cell? ⟨wr.heap.size, 2, none⟩ = some (.bool xgone) ∧ w'.cell? ⟨wr.heap.size, 3, none⟩ = some (.slice xvp xval.length xvc)) := fun w' hb => ⟨below_cell hb (cell_of_row _ _ _ _ _ _ g2.out), below_cell hb (cell_of_row _ _ _ _ _ _ g2.out), below_cell hb (cell_of_row _ _ _ _ _ _ g2.out), below_cell hb (cell_of_row _ _ _ _ _ _ g2.out)⟩
        obtain ⟨c0, c1, c2', c3'⟩ := CF.out W2 (Below.refl _ _)
        have hl3 := hI.out.len
        have hsm := hI.out.small
        have PE := keep (putEntry_any a Bs.length c3 Bs ⟨xkp, xkc, xvp, xvc, ⟨xkey, xseq, xgone, xval⟩⟩ ap A ac H W2 (by omega) (by omega) HM.out (hI.out.src.below b2.out) (entKind_ok.below HH.out b2.out) (hI.out.key.below b2.out))
        obtain ⟨B3, hB3⟩ : ∃ B3, Bs ++ Bq.entB H ⟨xkey, xseq, xgone, xval⟩ = B3 := ⟨_, rfl⟩
        unfold ev Laid8 at PE
        simp only at PE
        rw [hB3] at PE
        have HB3 := keep hB3.symm
        clear hB3 hl3
        obtain ⟨nb, hnb⟩ : ∃ nb, Bs.length = nb := ⟨_, rfl⟩
        rw [hnb] at PE ⊢
        clear hnb
        go_wp2_with fail
        refine PE.out.mono ?_
        rintro e w3 ⟨a3, k3, rfl, hs3, ho3, hb3⟩
        obtain ⟨d0, d1, d2, d3⟩ := CF.out w3 hb3
        have I3 := keep (hI.out.next HY.out HM.out HB3.out b2.out hb3 hs3 ho3 (HH.out.1.below (b2.out.trans (hb3.mono b2.out.size))) hbd.2.1)
        clear hs3 ho3 hb3 PE hW2
        go_wp2
        go_roundw
        case rel => exact ⟨k + 1, a3, k3, B3, xkp, xkey.length, xkc, xkey, by omega, rfl, rfl, by first | rfl | go_num, I3.out⟩
        case measure => simp [intOf]; omega
      · obtain rfl : k = n := by omega
        have ll : ¬ (k : Int) < (k : Int) := by omega
        have hfull : L.take k = L := List.take_of_length_le (by rw [HLN.out]; exact Nat.le_refl _)
        have hraw : Bs = Bq.rawB L := by rw [hI.out.bytes, hfull, Bq.rawB, HLN.out]
        have hl3 := hI.out.len
        have PS := keep (putSum_any w.heap.size a Bs.length c3 Bs wr (by omega) HB.out.size hI.out.own)
        have HR : Hid (summed Bs = Bq.blk L) := by show _ = _; rw [hraw]; rfl
        rw [HR.out] at PS
        clear hraw hfull hl3
        obtain ⟨nb, hnb⟩ : ∃ nb, Bs.length = nb := ⟨_, rfl⟩
        rw [hnb] at PS ⊢
        clear hnb
        go_wp2_with fail
        refine PS.out.mono ?_
        rintro e w3 ⟨v3, rfl, ho3, hb3⟩
        obtain ⟨a3, k3, rfl⟩ := own_slice ho3
        have O3 := keep ho3
        have b3 := keep (HB.out.trans hb3)
        clear ho3 hb3 PS
        go_wp2
        go_ret2
        exact built_yes OK.out O3.out b3.out
end Go.Proofs.YtjblicgbdecbcaaGreat
