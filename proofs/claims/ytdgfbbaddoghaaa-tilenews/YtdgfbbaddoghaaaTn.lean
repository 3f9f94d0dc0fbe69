/- The walk of TileNews. -/
import Derived.Test.YtdgfbbaddoghaaaTv
import Derived.Deep.Cut
import Derived.OwnWalk
namespace Go.Proofs.Ytdgfbbaddoghaaa
open Go.RowKit
open Mt (Pos)

/-- Numbers in a row of 1024. -/
def iv (f : Nat → Nat) : List Value := (List.range 1024).map fun q => Value.int .i64 (f q : Int)
theorem iv_len (f : Nat → Nat) : (iv f).length = 1024 := by unfold iv; simp
theorem iv_congr {f f' : Nat → Nat} (h : ∀ i, f i = f' i) : iv f = iv f' := by rw [show f = f' from funext h]
theorem iv_at {f : Nat → Nat} {q : Nat} (h : q < 1024) : (iv f)[q]? = some (.int .i64 (f q : Int)) := by
  unfold iv
  rw [List.getElem?_map, List.getElem?_range h]
  rfl
theorem iv_set {f f' : Nat → Nat} {q : Nat} {v : Nat} (_h : q < 1024) (h1 : f' q = v) (h2 : ∀ p, p ≠ q → f' p = f p) : (iv f).set q (.int .i64 (v : Int)) = iv f' := by
  apply List.ext_getElem?
  intro p
  rcases Nat.lt_or_ge p 1024 with hp | hp
  · by_cases e : p = q
    · subst e
      rw [List.getElem?_set_self (by rw [iv_len]; exact hp), iv_at hp, h1]
    · rw [List.getElem?_set_ne (fun c => e c.symm), iv_at hp, iv_at hp, h2 p e]
  · rw [List.getElem?_eq_none (by rw [List.length_set, iv_len]; exact hp), List.getElem?_eq_none (by rw [iv_len]; exact hp)]
theorem made_zero (M : Nat) : (madeCells (Value.int .i64 0).cells (M * 1)).toList = List.replicate M (Value.int .i64 0) := by
  have h : (fun x : Nat => ([Value.int .i64 0] : List Value)[x % 1]?.getD default) = fun _ => Value.int .i64 0 := by
    funext x
    rw [Nat.mod_one]
    rfl
  simp only [madeCells, Value.cells, Nat.mul_one]
  simp [h, List.map_const']
theorem iv_zero : (madeCells (Value.int .i64 0).cells (1024 * 1)).toList = iv (fun _ => 0) := by
  rw [made_zero]
  unfold iv
  rw [List.map_const', List.length_range]
  rfl
theorem own_put1 {w : World} {base g n cap i t : Nat} {xs : List Value} (h : w.ownsRow base t 1 (.slice (some ⟨g, 0, none⟩) n cap) n xs) (u : Value) : (w.setCell ⟨g, i, none⟩ u).ownsRow base t 1 (.slice (some ⟨g, 0, none⟩) n cap) n (xs.set i u) := own_put h u
theorem info3 : (Try.prog.info? 3).map (fun i => (i.zero, i.size, i.bytes)) = some (some (.int .i64 0), 1, 8) := by kernel_rfl
theorem pos_set {w : World} {ao : Option Addr} {n c g : Nat} {ps : List Pos} (h : RSrc posKind w ao n c ps) (hg : ∀ ad, ao = some ad → ad.block ≠ g) (i : Nat) (v : Value) : RSrc posKind (w.setCell ⟨g, i, none⟩ v) ao n c ps :=
  ⟨h.len, h.cap, h.nil, fun ad had j u hu => by
    have h1 := h.cells ad had j u hu
    rw [World.cell?_of_block (w := w) (Below.heap_setCell w ⟨g, i, none⟩ v _ (by rw [addr_block]; exact hg ad had))]
    exact h1, fun _ _ => trivial⟩
/-- Numbers in memory, in a row of the call's own. -/
structure SnI (g B : Nat) (w0 wr : World) (f : Nat → Nat) : Prop where
  row : wr.ownsRow B 3 1 (.slice (some ⟨g, 0, none⟩) 1024 1024) 1024 (iv f)
  low : Below B w0 wr
  far : B ≤ g
theorem SnI.below {g B : Nat} {w0 wr w : World} {f : Nat → Nat} (h : SnI g B w0 wr f) (hB : B ≤ wr.heap.size) (hb : Below wr.heap.size wr w) : SnI g B w0 w f := ⟨own_next h.row hb, h.low.trans (hb.mono hB), h.far⟩
theorem SnI.cell {g B : Nat} {w0 wr : World} {f : Nat → Nat} (h : SnI g B w0 wr f) {q : Nat} (hq : q < 1024) : wr.cell? ⟨g, q, none⟩ = some (.int .i64 (f q : Int)) ∧ wr.frozen? ⟨g, q, none⟩ = false := own_cell h.row (iv_at hq)
theorem SnI.put {g B : Nat} {w0 wr : World} {f f' : Nat → Nat} (h : SnI g B w0 wr f) {q v : Nat} (hq : q < 1024) (h1 : f' q = v) (h2 : ∀ p, p ≠ q → f' p = f p) : SnI g B w0 (wr.setCell ⟨g, q, none⟩ (.int .i64 (v : Int))) f' :=
  ⟨by rw [← iv_set hq h1 h2]; exact own_put h.row _, h.low.setCell (p := ⟨g, q, none⟩) h.far _, h.far⟩
theorem wrap_mulN {x l lo : Nat} (h : (x + 1) * 2 ^ l = lo + 1) (hb : lo ≤ 1000000) : wrap64 (((x : Int) + 1) * 2 ^ l) = (lo : Int) + 1 := by
  have e : ((x : Int) + 1) * 2 ^ l = (((x + 1) * 2 ^ l : Nat) : Int) := by simp
  rw [e, h]
  unfold wrap64
  omega
theorem wrap_mulP {x l P : Nat} (h : (x + 1) * 2 ^ l = P) (hb : P ≤ 1000000) : wrap64 (((x : Int) + 1) * 2 ^ l) = (P : Int) := by
  have e : ((x : Int) + 1) * 2 ^ l = (((x + 1) * 2 ^ l : Nat) : Int) := by simp
  rw [e, h]
  unfold wrap64
  omega
set_option maxHeartbeats 1000000 in
set_option maxRecDepth 100000 in
theorem news_walk (many : Int) (w : World) : Calls Try.prog 4 #[.int .i64 many] w fun e w' => e = .returned (.bool true) ∧ Below w.heap.size w w' := by
  obtain ⟨i0, hi0, hz0, hz1, hz2⟩ := info_partsS info3
  have AW := keep (awake_any w)
  have hmask : ∃ q : Nat, q ≤ 127 ∧ bits .and .i64 many (127 : Int) = (q : Int) := by
    have hb : (BitVec.ofInt 64 (127 : Int)).toNat = 127 := by decide
    have h : ((BitVec.ofInt 64 many) &&& (BitVec.ofInt 64 (127 : Int))).toNat ≤ 127 := by
      rw [BitVec.toNat_and, hb]
      exact Nat.and_le_right
    refine ⟨((BitVec.ofInt 64 many) &&& (BitVec.ofInt 64 (127 : Int))).toNat, h, ?_⟩
    show IntKind.i64.wrap (((BitVec.ofInt 64 many) &&& (BitVec.ofInt 64 (127 : Int))).toNat : Int) = _
    exact wrap_small _ (by omega) (by omega)
  obtain ⟨n, hn, hq⟩ := hmask
  go_enter Try.func4, Try.ntmps4
  go_wp2_with fail
  refine AW.out.mono ?_
  rintro e w1 ⟨rfl, hb1⟩
  have B1 := keep hb1
  clear hb1 AW
  obtain ⟨g, hg⟩ : ∃ g, w1.heap.size = g := ⟨_, rfl⟩
  go_wp2_with (at_make; go_loud (refine wpList_make_full _ rfl _ _ 43 rfl w1.heap.size 3 i0 (.int .i64 0) 1 Try.underlying43 hi0 hz0 hz1 .i64 .i64 _ _ 1024 rfl rfl rfl rfl (by rw [hz2]; omega) (by unfold maxLen; omega) (Nat.le_refl _) ?_); intro w2 hown hgrow; rw [iv_zero] at hown; have K2 : Hid (SnI w1.heap.size w1.heap.size w1 w2 (Mt.cnt 0)) := ⟨by rw [iv_congr Mt.cnt_zero]; exact hown, (Below.refl _ _).grown hgrow (Nat.le_refl _) (fun k hk => by cases hk), Nat.le_refl _⟩; clear hown hgrow)
  have HG := keep hg
  rw [hg] at K2
  have B2 : Hid (Below w.heap.size w w2) := by rw [← hg] at K2; exact B1.out.trans (K2.out.low.mono B1.out.size)
  have HM := keep (show w.heap.size ≤ g by rw [← hg]; exact B1.out.size)
  clear hg hq i0 hi0 hz0 hz1 hz2 B1
  go_loopw [6, 7, 8, 9, 10] (fun i _ _ _ _ wr => ∃ k : Nat, k ≤ n ∧ i = .int .i64 (k : Int) ∧ Hid (SnI g g w2 wr (Mt.cnt k) ∧ g ≤ wr.heap.size)) (fun i _ _ _ _ _ => n - (intOf i).toNat)
  case atStart => exact ⟨0, Nat.zero_le _, rfl, ⟨K2.out.row, Below.refl _ _, K2.out.far⟩, Nat.le_of_lt (by obtain ⟨_, h⟩ := own_tag K2.out.row (g := g) rfl; exact (Array.getElem?_eq_some_iff.1 h).1)⟩
  case round =>
    obtain ⟨k, hk, rfl, hI⟩ := hrel
    by_cases hkn : k < n
    · have NW := keep (new_any k wr (by omega))
      have k1 : (k : Int) < (n : Int) := by omega
      have k0 : (0 : Int) ≤ (k : Int) := by omega
      have UA := keep (fun j p => Mt.ups_at k 0 j p)
      have CA := keep (Mt.cntk_all k)
      have SH := keep (Mt.ups_short (k := k) (by omega))
      obtain ⟨ps, hps⟩ : ∃ ps, Mt.ups 0 k = ps := ⟨_, rfl⟩
      rw [hps] at NW UA CA SH
      obtain ⟨N, hN⟩ : ∃ N, ps.length = N := ⟨_, rfl⟩
      have HN := keep hN
      rw [hN] at SH CA
      clear hps
      go_wp2_with fail
      refine NW.out.mono ?_
      rintro e w3 ⟨v3, rfl, ho3, hb3⟩
      rw [hN] at ho3
      obtain ⟨a3, c3, rfl, s3, _⟩ := RSrc.own posKind_ok ho3 (fun _ _ => trivial)
      have S3 := keep s3
      have hgw : g < wr.heap.size := by obtain ⟨_, h⟩ := own_tag hI.out.1.row (g := g) rfl; exact (Array.getElem?_eq_some_iff.1 h).1
      have AF : Hid (∀ ad, a3 = some ad → ad.block ≠ g) := fun ad e c => by
        have h1 := (ho3.lt ad.block (by rw [e]; rfl)).1
        omega
      have K3 : Hid (SnI g g w2 w3 (Mt.cntk k 0) ∧ g ≤ w3.heap.size) := by
        have h1 := hI.out.1.below hI.out.2 hb3
        exact ⟨⟨by rw [iv_congr (Mt.cntk_zero k)]; exact h1.row, h1.low, h1.far⟩, Nat.le_trans hI.out.2 hb3.size⟩
      clear ho3 hb3 s3 NW hI hN hgw
      go_wp2
      go_loopw [9, 10] (fun j _ wr => ∃ jj : Nat, jj ≤ N ∧ j = .int .i64 (jj : Int) ∧ Hid (SnI g g w2 wr (Mt.cntk k jj) ∧ g ≤ wr.heap.size ∧ RSrc posKind wr a3 N c3 ps ∧ ∀ ad, a3 = some ad → ad.block ≠ g)) (fun j _ _ => N - (intOf j).toNat)
      case atStart => exact ⟨0, Nat.zero_le _, rfl, K3.out.1, K3.out.2, S3.out, AF.out⟩
      case round =>
        clear K3 S3
        obtain ⟨jj, hj, rfl, hJ⟩ := hrel
        by_cases hjn : jj < N
        · obtain ⟨b, off, hb3, _, hcell⟩ := pos_at hJ.out.2.2.1 (by omega)
          obtain ⟨p, hp⟩ : ∃ p, ps[jj]? = some p := ⟨ps[jj]'(by rw [HN.out]; exact hjn), List.getElem?_eq_getElem _⟩
          obtain ⟨ck0, ck1⟩ := hcell jj p hp
          obtain ⟨hpl, hpx⟩ := UA.out jj p hp
          obtain ⟨l, x⟩ := p
          simp only at ck0 ck1 hpl hpx
          rw [Nat.zero_add] at hpl
          have hpe : jj = l := hpl.symm
          subst hpe
          rw [Nat.pow_zero, Nat.mul_one] at hpx
          have hp2 := Nat.two_pow_pos jj
          have hj7 : jj ≤ 6 := by
            rcases Nat.lt_or_ge 6 jj with h | h
            · have h1 : 2 ^ 7 ≤ 2 ^ jj := Nat.pow_le_pow_right (by decide) h
              have e : (2 : Nat) ^ 7 = 128 := by decide
              have h2 : 2 ^ jj ≤ (x + 1) * 2 ^ jj := Nat.le_mul_of_pos_left _ (Nat.succ_pos _)
              omega
            · exact h
          have hx127 : x + 1 ≤ k + 1 := by rw [← hpx]; exact Nat.le_mul_of_pos_right _ hp2
          have WB : Hid ((wrap64 (((x : Int) + 1) * 2 ^ jj) != (k : Int) + 1) = false) := by rw [wrap_mulN hpx (by omega)]; show _ = _; simp
          obtain ⟨Q, hQ⟩ : ∃ Q, jj * 128 + x = Q := ⟨_, rfl⟩
          have eQ : (jj : Int) * 128 + (x : Int) = (Q : Int) := by omega
          have hQ1 : Q < 1024 := by omega
          obtain ⟨W4, hW4⟩ : ∃ Wn, wr.alloc (.cells #[.int .i64 (jj : Int), .int .i64 (x : Int)] 45) = Wn := ⟨_, rfl⟩
          have b4 : Below wr.heap.size wr W4 := by rw [← hW4]; exact (Below.refl _ _).alloc (Nat.le_refl _) _
          have d0 : W4.cell? ⟨wr.heap.size, 0, none⟩ = some (.int .i64 (jj : Int)) := by rw [← hW4]; exact cell_of_row _ _ _ _ _ _ (heap_alloc_new wr _)
          have d1 : W4.cell? ⟨wr.heap.size, 1, none⟩ = some (.int .i64 (x : Int)) := by rw [← hW4]; exact cell_of_row _ _ _ _ _ _ (heap_alloc_new wr _)
          have I4 := hJ.out.1.below hJ.out.2.1 b4
          obtain ⟨e0, f0⟩ := I4.cell hQ1
          have hV2 : Mt.cntk k jj Q ≤ 2 := by unfold Mt.cntk Mt.cnt; split <;> split <;> omega
          have PT := I4.put (f' := Mt.cntk k (jj + 1)) (q := Q) (v := Mt.cntk k jj Q + 1) hQ1 (by rw [← hQ]; exact Mt.cntk_at (by omega) hpx) (fun p hp => Mt.cntk_else (by omega) hpx (by rw [hQ]; exact hp))
          obtain ⟨V, hV⟩ : ∃ V, Mt.cntk k jj Q = V := ⟨_, rfl⟩
          rw [hV] at e0 hV2 PT
          have v1 : ((V + 1 : Nat) : Int) = (V : Int) + 1 := by omega
          rw [v1] at PT
          have PT := keep PT
          have s4 : g ≤ (W4.setCell ⟨g, Q, none⟩ (.int .i64 ((V : Int) + 1))).heap.size := by
            have e : (W4.setCell ⟨g, Q, none⟩ (.int .i64 ((V : Int) + 1))).heap.size = W4.heap.size := by simp only [World.setCell, Array.size_modify]
            rw [e]
            exact Nat.le_trans hJ.out.2.1 b4.size
          have S4 := keep s4
          have P4 := keep (pos_set (hJ.out.2.2.1.below posKind_ok b4) hJ.out.2.2.2 Q (.int .i64 ((V : Int) + 1)))
          have AF4 := keep hJ.out.2.2.2
          subst hb3
          have j0 : (0 : Int) ≤ (jj : Int) := by omega
          have j1 : (jj : Int) < (N : Int) := by omega
          have j2 : ¬ (7 : Int) < (jj : Int) := by omega
          have j3 : (jj : Int) ≤ 6 := by omega
          have x0 : ¬ (x : Int) < 0 := by omega
          have x1 : ¬ (127 : Int) < (x : Int) := by omega
          have x2 : (x : Int) ≤ 127 := by omega
          have x3 : (0 : Int) ≤ (x : Int) := by omega
          have Q0 : (0 : Int) ≤ (Q : Int) := by omega
          have Q1 : (Q : Int) < 1024 := by omega
          have V2 : (V : Int) ≤ 2 := by omega
          have k127 : (k : Int) ≤ 127 := by omega
          clear hJ hcell hp hpx hp2 hj7 hx127 hQ hQ1 b4 I4 hV2 hV v1 s4 UA CA hpl
          have WBo := WB.out
          go_wp2
          go_roundw
          case rel => exact ⟨jj + 1, by omega, by first | rfl | go_num, PT.out, S4.out, P4.out, AF4.out⟩
          case measure => simp [intOf]; omega
        · obtain rfl : jj = N := by omega
          have K5 : Hid (SnI g g w2 wr (Mt.cnt (k + 1)) ∧ g ≤ wr.heap.size) := ⟨⟨by rw [← iv_congr CA.out]; exact hJ.out.1.row, hJ.out.1.low, hJ.out.1.far⟩, hJ.out.2.1⟩
          have j1 : ¬ (jj : Int) < (jj : Int) := by omega
          clear hJ UA CA
          go_wp2
          go_roundw
          case rel => exact ⟨k + 1, by omega, by first | rfl | go_num, K5.out⟩
          case measure => simp [intOf]; omega
    · obtain rfl : k = n := by omega
      have k1 : ¬ (k : Int) < (k : Int) := by omega
      obtain ⟨wo, hwo⟩ : ∃ wo, wo = wr := ⟨_, rfl⟩
      rw [← hwo] at hI ⊢
      have SN := keep hI.out.1
      have BF : Hid (Below w.heap.size w wo) := B2.out.trans (hI.out.1.low.mono (Nat.le_trans HM.out (Nat.le_refl g)))
      clear hwo hI
      go_wp2
      go_loopw [11, 12, 13] (fun i _ _ wr => ∃ a : Nat, a ≤ 8 ∧ i = .int .i64 (a : Int) ∧ wr = wo) (fun i _ _ _ => 8 - (intOf i).toNat)
      case atStart => exact ⟨0, Nat.zero_le _, rfl, rfl⟩
      case round =>
        obtain ⟨a, ha, rfl, rfl⟩ := hrel
        by_cases ha8 : a < 8
        · have a1 : (a : Int) < 8 := by omega
          have a0 : (0 : Int) ≤ (a : Int) := by omega
          go_wp2
          go_loopw [12, 13] (fun i _ wr2 => ∃ b : Nat, b ≤ 128 ∧ i = .int .i64 (b : Int) ∧ wr2 = wr) (fun i _ _ => 128 - (intOf i).toNat)
          case atStart => exact ⟨0, Nat.zero_le _, rfl, rfl⟩
          case round =>
            obtain ⟨b, hb, rfl, rfl⟩ := hrel
            by_cases hb8 : b < 128
            · have b1 : (b : Int) < 128 := by omega
              have b0 : (0 : Int) ≤ (b : Int) := by omega
              obtain ⟨Q, hQ⟩ : ∃ Q, a * 128 + b = Q := ⟨_, rfl⟩
              have eQ : (a : Int) * 128 + (b : Int) = (Q : Int) := by omega
              have hQ1 : Q < 1024 := by omega
              have e0 := (SN.out.cell hQ1).1
              have hpa : 2 ^ a ≤ 2 ^ 7 := Nat.pow_le_pow_right (by decide) (by omega)
              have hpb : (b + 1) * 2 ^ a ≤ 128 * 2 ^ 7 := Nat.mul_le_mul (by omega) hpa
              have hCN : Mt.cnt k Q = if (b + 1) * 2 ^ a ≤ k then 1 else 0 := by
                unfold Mt.cnt
                rw [show Q / 128 = a by omega, show Q % 128 = b by omega]
              obtain ⟨P, hP⟩ : ∃ P, (b + 1) * 2 ^ a = P := ⟨_, rfl⟩
              rw [hP] at hCN hpb
              have hP1 : P ≤ 16384 := hpb
              have WE : Hid (wrap64 (((b : Int) + 1) * 2 ^ a) = (P : Int)) := wrap_mulP hP (by omega)
              have Q0 : (0 : Int) ≤ (Q : Int) := by omega
              have Q1 : (Q : Int) < 1024 := by omega
              by_cases hle : P ≤ k
              · rw [hCN, if_pos hle] at e0
                have e1 : _ = some (Value.int .i64 (1 : Int)) := e0
                have WB : Hid (decide (wrap64 (((b : Int) + 1) * 2 ^ a) ≤ (k : Int)) = true) := by rw [WE.out]; show _ = _; exact decide_eq_true (by omega)
                have a6 : (a : Int) ≤ 7 := by omega
                clear hQ hQ1 hpa hpb hCN hP hP1 hle e0 WE
                have WBo := WB.out
                go_wp2
                go_roundw
                case rel => exact ⟨b + 1, by omega, by first | rfl | go_num, by first | rfl | trivial⟩
                case measure => simp [intOf]; omega
              · rw [hCN, if_neg hle] at e0
                have e1 : _ = some (Value.int .i64 (0 : Int)) := e0
                have WB : Hid (decide (wrap64 (((b : Int) + 1) * 2 ^ a) ≤ (k : Int)) = false) := by rw [WE.out]; show _ = _; exact decide_eq_false (by omega)
                have a6 : (a : Int) ≤ 7 := by omega
                clear hQ hQ1 hpa hpb hCN hP hP1 hle e0 WE
                have WBo := WB.out
                go_wp2
                go_roundw
                case rel => exact ⟨b + 1, by omega, by first | rfl | go_num, by first | rfl | trivial⟩
                case measure => simp [intOf]; omega
            · have b1 : ¬ (b : Int) < 128 := by omega
              go_wp2
              go_roundw
              case rel => exact ⟨a + 1, by omega, by first | rfl | go_num, by first | rfl | trivial⟩
              case measure => simp [intOf]; omega
        · have a1 : ¬ (a : Int) < 8 := by omega
          go_wp2
          go_ret
          exact ⟨rfl, BF.out⟩
end Go.Proofs.Ytdgfbbaddoghaaa
