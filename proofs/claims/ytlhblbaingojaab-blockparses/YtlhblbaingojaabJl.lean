/- The walks of the document's Parse for blocks, and of BlockParses. -/
import Derived.Test.YtlhblbaingojaabJk
import Derived.Test.YtlhblbaingojaabJh
import Derived.Test.YtlhblbaingojaabJc
import Derived.Test.YtlhblbaingojaabVj
import Derived.Test.YtlhblbaingojaabRp
namespace Go.Proofs.Ytlhblbaingojaab
open Go.RowKit
open Sk (Ent)

/-- How far the document's Parse has come. -/
structure RTake (w : World) (R : List UInt8) (k : Nat) (ys : List EV) (v : Value) (ap : Option Addr) (A ac : Nat) (rp : Option Addr) (M rc : Nat) (wr : World) : Prop where
  row : RowT w.heap.size wr v ys
  ents : ys.map (·.e) = Bq.rdL k [] R
  rest : Src wr rp M rc (Bq.reK k R)
  rest5 : In5 wr rp
  key : Src wr ap A ac (Bq.ahK k [] R)
  key5 : In5 wr ap
  small : A ≤ 64 * k
  below : Below w.heap.size w wr
  len : ys.length = k
  short : M ≤ R.length
theorem RTake.next {w : World} {R : List UInt8} {k : Nat} {ys : List EV} {v : Value} {ap : Option Addr} {A ac : Nat} {rp : Option Addr} {M rc : Nat} {wr W4 w5 : World} (h : RTake w R k ys v ap A ac rp M rc wr) {y : EV} (hy : y.e = Bq.rdE (Bq.ahK k [] R) (Bq.reK k R)) (hb : Below wr.heap.size wr W4) (hh : HeldT W4 y) {rp' : Option Addr} {M' rc' : Nat} (hs : Src W4 rp' M' rc' (Bq.rdR (Bq.reK k R))) (h5 : In5 W4 rp') {v' : Value}
    (ho : w5.ownsRow w.heap.size 36 4 v' (ys.length + 1) (rv entKind (ys ++ [y]))) (hg : W4.grownBy w5 v.ownBlock) : RTake w R (k + 1) (ys ++ [y]) v' y.kp y.e.key.length y.kc rp' M' rc' w5 := by
  have row4 := h.row.below hb
  have rowN := row4.more hh ho hg
  have hyN := rowN.each y (by simp)
  have t5 := T5.of_grown row4.row (by decide) hg
  refine ⟨rowN, ?_, ?_, h5.turn t5, ?_, hyN.2.1, ?_, ?_, ?_, ?_⟩
  · rw [List.map_append, h.ents, Bq.rdL_snoc, ← hy]
    rfl
  · rw [Bq.reK_succ]
    exact src_turn hs h5 t5
  · rw [Bq.ahK_succ, ← hy]
    exact hyN.1.1
  · have := Bq.rdE_key (Bq.ahK k [] R) (Bq.reK k R)
    have h1 := h.small
    have h2 := h.key.len
    rw [← hy] at this
    omega
  · exact (h.below.trans (hb.mono h.below.size)).grown hg (Nat.le_trans h.below.size hb.size) (fun g hgg => (row4.row.lt g hgg).1)
  · rw [List.length_append, h.len]
    rfl
  · have h1 := Bq.rdR_len (Bq.reK k R)
    have h2 := h.short
    have h3 := hs.len
    have h4 := h.rest.len
    omega
set_option maxHeartbeats 4000000 in
set_option maxRecDepth 100000 in
theorem rparse_any (ao : Option Addr) (m c : Nat) (b : List UInt8) (w : World) (hm : m ≤ 140737488355328) (hs : Src w ao m c b) :
    Calls Try.prog 15 #[.slice ao m c] w (Parsed w b) := by
  obtain ⟨i0, hi, hz0, hz1, hz2⟩ := info_parts info5
  obtain ⟨e0, he0, hy0, hy1, hy2⟩ := info_parts3 infoE
  have HS := keep hs
  have HBL := keep hs.len
  have hlR := Bq.rOf_len b
  rw [hs.len] at hlR
  have TN := keep (rtakeNum_own ao m c b w hm hs)
  have FI := keep (Bq.parse_first (b := b))
  have HRD : Hid (Bq.rd b = Bq.rdL (min (nOf b) 8) [] (rOf b)) := rfl
  have FL := keep (fun k hk hf => Bq.parse_fault (b := b) (k := k) hk hf)
  have EO := Bq.eOf_or b
  obtain ⟨E, hE⟩ : ∃ E, eOf b = E := ⟨_, rfl⟩
  obtain ⟨N, hN⟩ : ∃ N, nOf b = N := ⟨_, rfl⟩
  obtain ⟨R, hR⟩ : ∃ R, rOf b = R := ⟨_, rfl⟩
  rw [hE] at TN FI EO
  rw [hN] at TN FI HRD FL
  rw [hR] at TN HRD FL hlR
  clear hE hN hR hs
  unfold TookN at TN
  go_enter Try.func15, Try.ntmps15
  go_wp2_with fail
  refine TN.out.mono ?_
  rintro e w1 ⟨a1, k1, rfl, hs1, h51, hb1⟩
  have B1 := keep hb1
  rcases EO with rfl | rfl
  · by_cases hN8 : 8 < N
    · have h8i : (8 : Int) < (N : Int) := by omega
      have PN := keep (FI.out (.inr hN8))
      clear hs1 h51 hb1 TN
      go_wp2
      go_ret2
      exact parsed_no PN.out B1.out
    · have h8i : ¬ (8 : Int) < (N : Int) := by omega
      have hmin : min N 8 = N := by omega
      rw [hmin] at HRD
      have I0 : Hid (RTake w R 0 [] (.slice none 0 0) none 0 0 a1 R.length k1 w1) := ⟨RowT.nil _ _, rfl, hs1, h51, src_nil w1, in5_none w1, by omega, hb1, rfl, Nat.le_refl _⟩
      clear hs1 h51 hb1 TN hmin
      obtain ⟨lR, hlR'⟩ : ∃ lR, R.length = lR := ⟨_, rfl⟩
      have HLR := keep hlR'
      rw [hlR'] at I0 hlR ⊢
      clear hlR'
      go_wp2
      go_loopw [5, 7, 8, 9] (fun vr vo va i wr => ∃ (k : Nat) (ys : List EV) (v : Value) (ap : Option Addr) (A ac : Nat) (rp : Option Addr) (M rc : Nat), k ≤ N ∧ vr = .slice rp M rc ∧ vo = v ∧ va = .slice ap A ac ∧ i = .int .i64 (k : Int) ∧ Hid (RTake w R k ys v ap A ac rp M rc wr)) (fun _ _ _ i _ => N - (intOf i).toNat)
      case atStart => exact ⟨0, [], _, _, _, _, _, _, _, Nat.zero_le _, rfl, rfl, rfl, rfl, I0.out⟩
      case round =>
        obtain ⟨k, ys, vo, ap, A, ac, rp, M, rc, hk, rfl, hvo, rfl, rfl, hI⟩ := hrel
        have hvo' := hvo.symm
        subst hvo'
        clear hvo I0
        by_cases hkC : k < N
        · have ll : (k : Int) < (N : Int) := by omega
          have hsm := hI.out.small
          have hsh := hI.out.short
          rw [HLR.out] at hsh
          have hAl := hI.out.key.len
          have hMl := hI.out.rest.len
          have FK := keep (FL.out k hkC)
          have EE : Hid (Bq.rdE (Bq.ahK k [] R) (Bq.reK k R) = ⟨(Bq.ahK k [] R).take (nOf (Bq.reK k R)) ++ Bq.tS (rOf (Bq.reK k R)) 64, ((nOf (Bq.tR (rOf (Bq.reK k R)) 64) / 2 : Nat) : Int), decide (nOf (Bq.tR (rOf (Bq.reK k R)) 64) % 2 = 1), Bq.tS (rOf (Bq.tR (rOf (Bq.reK k R)) 64)) 1024⟩) := rfl
          have ER : Hid (Bq.rdR (Bq.reK k R) = Bq.tR (rOf (Bq.tR (rOf (Bq.reK k R)) 64)) 1024) := rfl
          have NX := keep (fun (y : EV) W4 w5 rp' M' rc' v' hy hb hh hs h5 ho hg => RTake.next (w := w) (R := R) (y := y) (W4 := W4) (w5 := w5) (rp' := rp') (M' := M') (rc' := rc') (v' := v') hI.out hy hb hh hs h5 ho hg)
          have AH := keep hI.out.key
          have RE := keep hI.out.rest
          have AH5 := keep hI.out.key5
          have HB := keep hI.out.below
          have ROW := keep hI.out.row
          have HYL := keep hI.out.len
          obtain ⟨H, hH⟩ : ∃ H, Bq.ahK k [] R = H := ⟨_, rfl⟩
          obtain ⟨S0, hS0⟩ : ∃ S0, Bq.reK k R = S0 := ⟨_, rfl⟩
          rw [hH] at FK EE AH hAl NX
          rw [hS0] at FK EE ER RE hMl NX
          clear hH hS0 hI
          have l1 := Bq.rOf_len S0
          have l2 := Bq.tR_len (rOf S0) 64
          have l3 := Bq.rOf_len (Bq.tR (rOf S0) 64)
          have lS1 : (Bq.tS (rOf S0) 64).length ≤ 64 := Bq.tS_len (rOf S0) 64
          have T1 := keep (rtakeNum_own rp M rc S0 wr (by omega) RE.out)
          have T2 : Hid (∀ w' a k', Src w' a (rOf S0).length k' (rOf S0) → _) := fun w' a k' h => rtakeText_uni a (rOf S0).length k' (rOf S0) 64 w' (by omega) h
          have T3 : Hid (∀ w' a k', Src w' a (Bq.tR (rOf S0) 64).length k' (Bq.tR (rOf S0) 64) → _) := fun w' a k' h => rtakeNum_own a (Bq.tR (rOf S0) 64).length k' (Bq.tR (rOf S0) 64) w' (by omega) h
          have T4 : Hid (∀ w' a k', Src w' a (rOf (Bq.tR (rOf S0) 64)).length k' (rOf (Bq.tR (rOf S0) 64)) → _) := fun w' a k' h => rtakeText_uni a (rOf (Bq.tR (rOf S0) 64)).length k' (rOf (Bq.tR (rOf S0) 64)) 1024 w' (by omega) h
          have q1 := Bq.eOf_or S0
          have q2 := Bq.tE_or (rOf S0) 64
          have q3 := Bq.eOf_or (Bq.tR (rOf S0) 64)
          have q4 := Bq.tE_or (rOf (Bq.tR (rOf S0) 64)) 1024
          have ln2 := Bq.nOf_le (Bq.tR (rOf S0) 64)
          unfold Bq.fine at FK
          unfold TookN at T1 T3
          obtain ⟨R4, hR4⟩ : ∃ x, Bq.tR (rOf (Bq.tR (rOf S0) 64)) 1024 = x := ⟨_, rfl⟩
          obtain ⟨S3, hS3⟩ : ∃ x, Bq.tS (rOf (Bq.tR (rOf S0) 64)) 1024 = x := ⟨_, rfl⟩
          obtain ⟨E4, hE4⟩ : ∃ x, tE (rOf (Bq.tR (rOf S0) 64)) 1024 = x := ⟨_, rfl⟩
          rw [hR4] at T4 ER
          rw [hS3] at T4 EE
          rw [hE4] at T4 FK q4
          obtain ⟨R3, hR3⟩ : ∃ x, rOf (Bq.tR (rOf S0) 64) = x := ⟨_, rfl⟩
          obtain ⟨N3, hN3⟩ : ∃ x, nOf (Bq.tR (rOf S0) 64) = x := ⟨_, rfl⟩
          obtain ⟨E3, hE3⟩ : ∃ x, eOf (Bq.tR (rOf S0) 64) = x := ⟨_, rfl⟩
          rw [hR3] at T3 T4
          rw [hN3] at T3 EE ln2
          rw [hE3] at T3 FK q3
          obtain ⟨R2, hR2⟩ : ∃ x, Bq.tR (rOf S0) 64 = x := ⟨_, rfl⟩
          obtain ⟨S1, hS1⟩ : ∃ x, Bq.tS (rOf S0) 64 = x := ⟨_, rfl⟩
          obtain ⟨E2, hE2⟩ : ∃ x, tE (rOf S0) 64 = x := ⟨_, rfl⟩
          rw [hR2] at T2 T3
          rw [hS1] at T2 EE lS1
          rw [hE2] at T2 FK q2
          obtain ⟨R1, hR1⟩ : ∃ x, rOf S0 = x := ⟨_, rfl⟩
          obtain ⟨N1, hN1⟩ : ∃ x, nOf S0 = x := ⟨_, rfl⟩
          obtain ⟨E1, hE1⟩ : ∃ x, eOf S0 = x := ⟨_, rfl⟩
          rw [hR1] at T1 T2
          rw [hN1] at T1 EE FK
          rw [hE1] at T1 FK q1
          rw [hAl] at FK
          clear hR4 hS3 hE4 hR3 hN3 hE3 hR2 hS1 hE2 hR1 hN1 hE1 l1 l2 l3
          go_wp2_with fail
          refine T1.out.mono ?_
          rintro e w2 ⟨a2, k2, rfl, hs2, _, hb2⟩
          have b2 := keep hb2
          have S2 := keep hs2
          clear hb2 hs2 T1
          go_wp2_with fail
          refine (T2.out w2 a2 k2 S2.out).mono ?_
          rintro e w3 ⟨a3, k3, rfl, hs3, _, hb3⟩
          have b3 := keep (b2.out.trans (hb3.mono b2.out.size))
          have S3' := keep hs3
          clear hb3 hs3 T2 S2
          go_wp2_with fail
          refine (T3.out w3 a3 k3 S3'.out).mono ?_
          rintro e w4 ⟨a4, k4, rfl, hs4, _, hb4⟩
          have b4 := keep (b3.out.trans (hb4.mono b3.out.size))
          have S4 := keep hs4
          clear hb4 hs4 T3 S3'
          go_wp2_with fail
          refine (T4.out w4 a4 k4 S4.out).mono ?_
          rintro e w5 ⟨a5, k5, rfl, hs5, h55, hb5⟩
          have b5 := keep (b4.out.trans (hb5.mono b4.out.size))
          have S5 := keep hs5
          have I5 := keep h55
          clear hb5 hs5 T4 S4 h55
          have B5 := keep (HB.out.trans (b5.out.mono HB.out.size))
          rcases q1 with rfl | rfl
          case inr =>
            have PN := keep (FK.out (fun h => by cases h.1))
            go_wp2
            go_ret2
            exact parsed_no PN.out B5.out
          rcases q2 with rfl | rfl
          case inr =>
            have PN := keep (FK.out (fun h => by cases h.2.1))
            go_wp2
            go_ret2
            exact parsed_no PN.out B5.out
          rcases q3 with rfl | rfl
          case inr =>
            have PN := keep (FK.out (fun h => by cases h.2.2.1))
            go_wp2
            go_ret2
            exact parsed_no PN.out B5.out
          rcases q4 with rfl | rfl
          case inr =>
            have PN := keep (FK.out (fun h => by cases h.2.2.2.1))
            go_wp2
            go_ret2
            exact parsed_no PN.out B5.out
          by_cases hNA : A < N1
          · have hNAi : (A : Int) < (N1 : Int) := by omega
            have PN := keep (FK.out (fun h => by have := h.2.2.2.2; omega))
            go_wp2
            go_ret2
            exact parsed_no PN.out B5.out
          · have hNAi : ¬ (A : Int) < (N1 : Int) := by omega
            clear FK
            have A5 := keep (AH.out.below b5.out)
            have AT := keep (A5.out.head N1 (by omega))
            have hac := A5.out.cap
            have n0 : (0 : Int) ≤ (N1 : Int) := by omega
            have n1 : (N1 : Int) ≤ (A : Int) := by omega
            have n2 : (N1 : Int) ≤ (ac : Int) := by omega
            have hl1 : (H.take N1).length = N1 := by rw [List.length_take]; omega
            have HL1 := keep hl1
            clear hl1
            go_wp2_with (first
              | (at_builtin; refine wpList_append_own_string_if (by rfl) _ _ 24 9 rfl w5.heap.size i0 Try.underlying24 Try.underlying9 hi hz0 hz1 hz2 _ N1 (H.take N1) S1 S1.length rfl O6.out rfl rfl (by omega) b6.out.size ?_; intro v7 w7 ho7 hg7; have b7 := keep (b6.out.grown hg7 b6.out.size (fun j hj => (O6.out.lt j hj).1)); have O7 := keep ho7; clear ho7 hg7)
              | (at_builtin; refine wpList_append_src rfl _ _ 24 rfl w5.heap.size i0 _ Try.underlying24 hi hz0 hz1 hz2 rfl _ 0 [] rfl (own_emptyS (t := 5) (k := 1) (Nat.le_refl _)) _ N1 ac (H.take N1) rfl (AT.out.below ((Below.refl _ _).alloc (Nat.le_refl _) _)) (by omega) (le_alloc (Nat.le_refl _) _) ?_; intro v6 w6 ho6 hg6; have O6 := keep ho6; simp only [Nat.zero_add, List.nil_append] at O6; have b6 := keep (((Below.refl w5.heap.size w5).alloc (Nat.le_refl _) _).grown hg6 (le_alloc (Nat.le_refl _) _) (fun j hj => (by cases hj; exact Nat.le_refl _))); clear ho6 hg6))
            obtain ⟨a7, k7, rfl, hs7, _⟩ := Src.of_own O7.out
            have L7 : Hid ((H.take N1 ++ S1).length = N1 + S1.length) := hs7.len
            have cv := conv_str S3 S3.length rfl w7
            obtain ⟨kV, hkV⟩ : ∃ kV, grownCap w7 S3.length 0 5 = kV := ⟨_, rfl⟩
            have S8 : Hid (Src (Lib.bytesWorld w7 5 ⟨S3.toArray⟩) (some ⟨w7.heap.size, 0, none⟩) S3.length kV S3) := by rw [← hkV]; exact Src.converted w7 S3 S3.length rfl
            have b8 := keep (below_bytesWorld w7 ⟨S3.toArray⟩)
            have I8 := keep (in5_conv w7 ⟨S3.toArray⟩)
            rw [hkV] at cv
            obtain ⟨W8, hW8⟩ : ∃ W8, Lib.bytesWorld w7 5 ⟨S3.toArray⟩ = W8 := ⟨_, rfl⟩
            rw [hW8] at cv S8 b8 I8
            clear hkV hW8
            have X1 : Hid ((N3 : Int) / 2 = ((N3 / 2 : Nat) : Int)) := by show _ = _; omega
            have X2 : Hid (((N3 : Int) % 2 == 1) = decide (N3 % 2 = 1)) := by
              show _ = _
              cases h : decide (N3 % 2 = 1) with
              | true => have := of_decide_eq_true h; simp; omega
              | false => have := of_decide_eq_false h; simp; omega
            rw [← X1.out, ← X2.out] at EE
            have b78 := keep (b7.out.trans (b8.out.mono b7.out.size))
            have K8 : Hid (Src W8 a7 (N1 + S1.length) k7 (H.take N1 ++ S1)) := hs7.below b8.out
            have J8 := keep ((in5_own O7.out).turn (T5.of_below b8.out))
            clear hs7
            obtain ⟨y, hy⟩ : ∃ y : EV, y = ⟨a7, k7, some ⟨w7.heap.size, 0, none⟩, kV, ⟨H.take N1 ++ S1, (N3 : Int) / 2, ((N3 : Int) % 2 == 1), S3⟩⟩ := ⟨_, rfl⟩
            have b9 := keep ((Below.refl W8.heap.size W8).alloc (Nat.le_refl _) (.cells (entKind.vals y).toArray 36))
            have HT9 : Hid (HeldT (W8.alloc (.cells (entKind.vals y).toArray 36)) y) := by
              refine HeldT.turn ?_ (T5.of_below b9.out)
              rw [hy]
              refine ⟨⟨?_, S8.out⟩, J8.out, I8.out⟩
              show Src W8 a7 (H.take N1 ++ S1).length k7 (H.take N1 ++ S1)
              rw [L7.out]
              exact K8.out
            have bw9 := keep (b5.out.trans ((b78.out.trans (b9.out.mono b78.out.size)).mono b5.out.size))
            have b59 := keep (b78.out.trans (b9.out.mono b78.out.size))
            have R9 := keep (ROW.out.below bw9.out)
            have rc9 := keep (rec_cells (k := entKind) W8 36 y)
            have NY := keep (fun w5 v' ho hg => NX.out y _ w5 a5 R4.length k5 v' (by rw [hy, EE.out]) bw9.out HT9.out (by rw [ER.out]; exact S5.out.below b59.out) (I5.out.turn (T5.of_below b59.out)) ho hg)
            have HKW : Hid (w.heap.size ≤ (W8.alloc (.cells (entKind.vals y).toArray 36)).heap.size) := Nat.le_trans HB.out.size bw9.out.size
            have VY : Hid ((entKind.vals y).toArray = #[.slice a7 (N1 + S1.length) k7, .int .i64 ((N3 : Int) / 2), .bool ((N3 : Int) % 2 == 1), .slice (some ⟨w7.heap.size, 0, none⟩) S3.length kV]) := by show _ = _; rw [hy, ← L7.out]; rfl
            have KY : Hid (y.kp = a7 ∧ y.e.key.length = N1 + S1.length ∧ y.kc = k7) := by rw [hy]; exact ⟨rfl, L7.out, rfl⟩
            rw [VY.out] at HT9 bw9 b59 R9 rc9 HKW NY
            have HYY := keep hy
            clear hy b9 NX
            obtain ⟨kn, hkn⟩ : ∃ kn, N1 + S1.length = kn := ⟨_, rfl⟩
            rw [hkn] at HT9 bw9 b59 R9 rc9 HKW NY KY ⊢
            clear hkn
            rw [cv]
            clear cv
            go_simp
            go_wp2_with (at_builtin; go_loud (refine wpList_append_rec entKind_ok rfl _ _ 22 36 rfl w.heap.size e0 _ 64 Try.underlying22 he0 hy0 hy1 hy2 rfl _ ys.length ys rfl R9.out.row _ 1 y rfl rc9.out (by have := HYL.out; unfold maxLen; omega) (by have := HYL.out; omega) HKW.out ?_); intro v10 w10 ho10 hg10; have N10 := keep (NY.out w10 v10 ho10 hg10); clear ho10 hg10)
            rw [KY.out.1, KY.out.2.1, KY.out.2.2] at N10
            go_roundw
            case rel => exact ⟨k + 1, _, _, _, _, _, _, _, _, by omega, rfl, rfl, rfl, by first | rfl | go_num, N10.out⟩
            case measure => simp [intOf]; omega
        · obtain rfl : k = N := by omega
          have ll : ¬ (k : Int) < (k : Int) := by omega
          obtain ⟨ao2, c2, rfl, hs2⟩ := hI.out.row.src
          have he2 := hI.out.ents
          rw [← HRD.out] at he2
          have B2 := keep hI.out.below
          have S2 := keep hs2
          have HE := keep he2
          have BB := keep (rbuild_any ao2 ys.length c2 ys wr hs2 (fun y hy => by
            have hm : y.e ∈ Bq.rd b := by rw [← he2]; exact List.mem_map_of_mem hy
            exact Bq.rd_bound hm))
          rw [he2] at BB
          clear hs2 he2 hI
          obtain ⟨n, hn⟩ : ∃ n, ys.length = n := ⟨_, rfl⟩
          rw [hn] at BB S2 ⊢
          clear hn
          go_wp2_with fail
          refine BB.out.mono ?_
          rintro e w3 (⟨hok, a3, c3, rfl, ho3, hb3⟩ | ⟨hok, rfl, hb3⟩)
          · obtain ⟨_, _, e3, hs3, _⟩ := Src.of_own ho3
            cases e3
            have B3 := keep (B2.out.trans (hb3.mono B2.out.size))
            have S3 := keep (S2.out.below entKind_ok hb3)
            have EQ := keep (same_any a3 _ c3 _ ao m c b w3 hs3 (HS.out.below B3.out))
            have OK := keep hok
            clear hs3 ho3 hb3 hok BB
            obtain ⟨nb, hnb⟩ : ∃ nb, (Bq.blk (Bq.rd b)).length = nb := ⟨_, rfl⟩
            rw [hnb] at EQ ⊢
            clear hnb
            by_cases hq : Bq.blk (Bq.rd b) = b
            · rw [decide_eq_true hq] at EQ
              have PS : Hid (Bq.parse b = some (Bq.rd b)) := if_pos ⟨OK.out, hq⟩
              clear hq
              go_wp2_with fail
              refine EQ.out.mono ?_
              rintro e w4 ⟨rfl, hb4⟩
              have B4 := keep (B3.out.trans (hb4.mono B3.out.size))
              have S4 := keep (S3.out.below entKind_ok hb4)
              clear hb4
              go_wp2
              go_ret2
              exact parsed_yes PS.out S4.out HE.out B4.out
            · rw [decide_eq_false hq] at EQ
              have PS : Hid (Bq.parse b = none) := if_neg (fun h => hq h.2)
              clear hq
              go_wp2_with fail
              refine EQ.out.mono ?_
              rintro e w4 ⟨rfl, hb4⟩
              have B4 := keep (B3.out.trans (hb4.mono B3.out.size))
              clear hb4
              go_wp2
              go_ret2
              exact parsed_no PS.out B4.out
          · have B3 := keep (B2.out.trans (hb3.mono B2.out.size))
            have PS : Hid (Bq.parse b = none) := if_neg (fun h => by rw [hok] at h; cases h.1)
            clear hb3 hok BB
            go_wp2
            go_ret2
            exact parsed_no PS.out B3.out
  · have PN := keep (FI.out (.inl (by decide)))
    clear hs1 h51 hb1 TN
    go_wp2
    go_ret2
    exact parsed_no PN.out B1.out
set_option maxHeartbeats 4000000 in
set_option maxRecDepth 100000 in
theorem parses_walk (ao : Option Addr) (m c : Nat) (b : List UInt8) (w : World) (hm : m ≤ 140737488351232) (hs : Src w ao m c b) :
    Calls Try.prog 4 #[.slice ao m c] w fun e w' => e = .returned (.bool true) ∧ Below w.heap.size w w' := by
  have HS := keep hs
  have AW := keep (awake_any w)
  clear hs
  go_enter Try.func4, Try.ntmps4
  go_wp2_with fail
  refine AW.out.mono ?_
  rintro e w1 ⟨rfl, hb1⟩
  have B1 := keep hb1
  have PA := keep (parse_any ao m c b w1 (HS.out.below hb1))
  clear hb1 AW
  go_wp2_with fail
  refine PA.out.mono ?_
  rintro e w2 (⟨L, a2, k2, ys, hp, rfl, hs2, he2, hb2⟩ | ⟨hp, rfl, hb2⟩)
  · have B2 := keep (B1.out.trans (hb2.mono B1.out.size))
    have S2 := keep hs2
    have HP := keep hp
    have HE := keep he2
    have RP := keep (rparse_any ao m c b w2 (by omega) (HS.out.below B2.out))
    have h8 := (Bq.okB_len (Bq.parse_some hp).1).2
    rw [← he2, List.length_map] at h8
    clear hb2 hs2 hp he2 PA
    obtain ⟨n, hn⟩ : ∃ n, ys.length = n := ⟨_, rfl⟩
    rw [hn] at S2 h8 ⊢
    have HN := keep hn
    clear hn
    go_wp2_with fail
    refine RP.out.mono ?_
    rintro e w3 (⟨L3, a3, k3, zs, hp, rfl, hs3, he3, hb3⟩ | ⟨hp, _, _⟩)
    · have B3 := keep (B2.out.trans (hb3.mono B2.out.size))
      rw [HP.out] at hp
      cases hp
      have hzn : zs.length = n := by
        have h1 := congrArg List.length (he3.trans HE.out.symm)
        rw [List.length_map, List.length_map] at h1
        rw [h1]
        exact HN.out
      rw [hzn] at hs3 ⊢
      have SY := keep (same_yes a2 n k2 ys a3 k3 zs w3 (by omega) (S2.out.below entKind_ok hb3) hs3 (HE.out.trans he3.symm))
      clear hb3 hs3 RP he3 hzn
      go_wp2_with fail
      refine SY.out.mono ?_
      rintro e w4 ⟨rfl, hb4⟩
      have B4 := keep (B3.out.trans (hb4.mono B3.out.size))
      clear hb4
      go_wp2
      go_ret
      exact ⟨rfl, B4.out⟩
    · rw [HP.out] at hp; cases hp
  · have B2 := keep (B1.out.trans (hb2.mono B1.out.size))
    have HP := keep hp
    have RP := keep (rparse_any ao m c b w2 (by omega) (HS.out.below B2.out))
    clear hb2 hp PA
    go_wp2_with fail
    refine RP.out.mono ?_
    rintro e w3 (⟨L3, a3, k3, zs, hp, _⟩ | ⟨_, rfl, hb3⟩)
    · rw [HP.out] at hp; cases hp
    · have B3 := keep (B2.out.trans (hb3.mono B2.out.size))
      have SY := keep (same_yes none 0 0 [] none 0 [] w3 (by omega) (RSrc.empty (fun _ => rfl)) (RSrc.empty (fun _ => rfl)) rfl)
      clear hb3 RP
      go_wp2_with fail
      refine SY.out.mono ?_
      rintro e w4 ⟨rfl, hb4⟩
      have B4 := keep (B3.out.trans (hb4.mono B3.out.size))
      clear hb4
      go_wp2
      go_ret
      exact ⟨rfl, B4.out⟩
end Go.Proofs.Ytlhblbaingojaab
