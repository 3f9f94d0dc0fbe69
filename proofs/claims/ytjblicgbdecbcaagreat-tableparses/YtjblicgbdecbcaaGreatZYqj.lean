/- Where the document's Parse stops early the bytes are no table, over plain lists; no walk. -/
/- The walks of the document's Parse for blocks, and of BlockParses. -/
/- The walk of the document's Parse for tables. -/
/- The walk of the document's Parse for tables. -/
import Derived.Test.YtjblicgbdecbcaaGreatZQlj
import Derived.Test.YtjblicgbdecbcaaGreatZJkj
import Derived.Test.YtjblicgbdecbcaaGreatZJh
import Derived.Test.YtjblicgbdecbcaaGreatZJc
import Derived.Test.YtjblicgbdecbcaaGreatZJ2j
import Derived.Test.YtjblicgbdecbcaaGreatZRpj
import Derived.Test.YtjblicgbdecbcaaGreatZY2j
import Derived.Deep.AppendLies
import Derived.Laws.AppendOwnNone
import Derived.Deep.Cut
namespace Go.Proofs.YtjblicgbdecbcaaGreat.Tq
open Go.Proofs.YtjblicgbdecbcaaGreat
open Go.Proofs.YtjblicgbdecbcaaGreat.Sk (Ent)
open Go.Proofs.YtjblicgbdecbcaaGreat.Bq (okAt ordB okB blk parse tS tR)

theorem txt_more {r s r' : List UInt8} {most : Int} (h : txt r most = some (s, r')) : tS r (r.length : Nat) = s ∧ tR r (r.length : Nat) = r' := by
  have h2 : txt r (r.length : Nat) = some (s, r') := by
    unfold txt at h ⊢
    cases hn : takeNum r with
    | none => rw [hn] at h; cases h
    | some x =>
      obtain ⟨n, q⟩ := x
      rw [hn] at h
      simp only at h ⊢
      have hl := congrArg List.length (takeNum_some hn).2
      rw [List.length_append] at hl
      split at h
      · rename_i hc
        rw [if_pos ⟨by omega, hc.2⟩]
        exact h
      · cases h
  unfold Bq.tS Bq.tR
  rw [h2]
  exact ⟨rfl, rfl⟩
theorem read_drop : ∀ (k : Nat) (xs : List (List UInt8)) (t : List UInt8), k ≤ xs.length → (∀ x ∈ xs, x.length < 4611686018427387904) → readR k (xs.flatMap txtB ++ t) = (xs.drop k).flatMap txtB ++ t
  | 0, xs, t, _, _ => by simp [readR]
  | k + 1, [], t, h, _ => by simp at h
  | k + 1, x :: xs, t, h, hx => by
    have h1 := take_txt (s := x) (r := xs.flatMap txtB ++ t) (hx x (List.mem_cons_self ..))
    have h2 := read_drop k xs t (by simpa using h) (fun y hy => hx y (List.mem_cons_of_mem _ hy))
    simp only [List.flatMap_cons, readR, List.append_assoc, List.drop_succ_cons]
    rw [h1.2]
    exact h2
theorem tparse_head {b : List UInt8} {l : List Ent} (h : tparse b = some l) : 4 ≤ b.length ∧ eOf (b.drop 4) = 0 ∧ nOf (b.drop 4) = cnt l.length ∧ ∃ t, rOf (b.drop 4) = (blks l (cnt l.length)).flatMap txtB ++ t := by
  obtain ⟨h1, h2⟩ := tparse_some h
  have hc := cnt_le h1
  have e0 : b.drop 4 = num (cnt l.length) ++ (blksB l (cnt l.length) ++ (txtB (filt l) ++ be 4 (crc (traw l)).toNat)) := by
    rw [← h2]
    simp only [tab, traw, swt, List.append_assoc, List.cons_append, List.nil_append, List.drop_succ_cons, List.drop_zero]
  have f1 := Bq.nOf_put (n := cnt l.length) (r := blksB l (cnt l.length) ++ (txtB (filt l) ++ be 4 (crc (traw l)).toNat)) (by omega)
  have g1 := takeNum_put (n := cnt l.length) (r := blksB l (cnt l.length) ++ (txtB (filt l) ++ be 4 (crc (traw l)).toNat)) (by omega)
  refine ⟨?_, ?_, ?_, ⟨txtB (filt l) ++ be 4 (crc (traw l)).toNat, ?_⟩⟩
  · rw [← h2]
    simp only [tab, traw, swt, List.length_append, List.length_cons]
    omega
  · rw [e0]; unfold eOf; rw [g1]; rfl
  · rw [e0, f1.1]
  · rw [e0, f1.2]; rfl
theorem tparse_step {b : List UInt8} {l : List Ent} (h : tparse b = some l) {k : Nat} (hk : k < nOf (b.drop 4)) : txt (readR k (rOf (b.drop 4))) 1048576 = some (blk (grp l k), readR (k + 1) (rOf (b.drop 4))) ∧ parse (blk (grp l k)) = some (grp l k) := by
  obtain ⟨_, _, hn, t, hr⟩ := tparse_head h
  have h1 := (tparse_some h).1
  rw [hn] at hk
  have hl : (blks l (cnt l.length)).length = cnt l.length := by simp [blks]
  have hx : ∀ x ∈ blks l (cnt l.length), x.length < 4611686018427387904 := fun x hx => by
    simp only [blks, List.mem_map, List.mem_range] at hx
    obtain ⟨k, hk, rfl⟩ := hx
    have := Bq.blk_len (grp_ok h1 hk)
    omega
  have r1 := read_drop k (blks l (cnt l.length)) t (by omega) hx
  have r2 := read_drop (k + 1) (blks l (cnt l.length)) t (by omega) hx
  have hb := Bq.blk_len (grp_ok h1 hk)
  have hd : (blks l (cnt l.length)).drop k = blk (grp l k) :: (blks l (cnt l.length)).drop (k + 1) := by
    rw [List.drop_eq_getElem_cons (by omega)]
    congr 1
    simp [blks]
  refine ⟨?_, Bq.parse_blk (grp_ok h1 hk)⟩
  rw [hr, r1, r2, hd, List.flatMap_cons, List.append_assoc]
  have e : txtB (blk (grp l k)) ++ (((blks l (cnt l.length)).drop (k + 1)).flatMap txtB ++ t) = num (blk (grp l k)).length ++ (blk (grp l k) ++ (((blks l (cnt l.length)).drop (k + 1)).flatMap txtB ++ t)) := by simp [txtB]
  rw [e]
  exact Bq.txt_put8 (by omega) (by omega)
/-- What the document's Parse has read behind k texts, each a block. -/
theorem rd_all {b : List UInt8} (h8 : nOf (b.drop 4) ≤ 8) : rd b = (readP (nOf (b.drop 4)) (rOf (b.drop 4))).flatMap pl := by
  unfold rd pieces pn
  rw [Nat.min_eq_left h8]
end Go.Proofs.YtjblicgbdecbcaaGreat.Tq
namespace Go.Proofs.YtjblicgbdecbcaaGreat
open Go.RowKit
open Sk (Ent)

/-- How far the document's Parse has come. -/
structure RTake (w : World) (R : List UInt8) (k : Nat) (ys : List EV) (v : Value) (ap : Option Addr) (A ac : Nat) (rp : Option Addr) (M rc : Nat) (wr : World) : Prop where
  row : RowT w.heap.size wr v ys
  ents : ys.map (·.e) = Bq.rdL k [] R
  rest : Src wr rp M rc (Bq.reK k R)
  rest5 : In5 wr rp
  key : Src wr ap A ac (Bq.ahK k [] R)
  key5 : In5 wr ap
  small : A ≤ 64 * k
  below : Below w.heap.size w wr
  len : ys.length = k
  short : M ≤ R.length
theorem RTake.next {w : World} {R : List UInt8} {k : Nat} {ys : List EV} {v : Value} {ap : Option Addr} {A ac : Nat} {rp : Option Addr} {M rc : Nat} {wr W4 w5 : World} (h : RTake w R k ys v ap A ac rp M rc wr) {y : EV} (hy : y.e = Bq.rdE (Bq.ahK k [] R) (Bq.reK k R)) (hb : Below wr.heap.size wr W4) (hh : HeldT W4 y) {rp' : Option Addr} {M' rc' : Nat} (hs : Src W4 rp' M' rc' (Bq.rdR (Bq.reK k R))) (h5 : In5 W4 rp') {v' : Value}
    (ho : w5.ownsRow w.heap.size 37 4 v' (ys.length + 1) (rv entKind (ys ++ [y]))) (hg : W4.grownBy w5 v.ownBlock) : RTake w R (k + 1) (ys ++ [y]) v' y.kp y.e.key.length y.kc rp' M' rc' w5 := by
  have row4 := h.row.below hb
  have rowN := row4.more hh ho hg
  have hyN := rowN.each y (by simp)
  have t5 := T5.of_grown row4.row (by decide) hg
  refine ⟨rowN, ?_, ?_, h5.turn t5, ?_, hyN.2.1, ?_, ?_, ?_, ?_⟩
  · rw [List.map_append, h.ents, Bq.rdL_snoc, ← hy]
    rfl
  · rw [Bq.reK_succ]
    exact src_turn hs h5 t5
  · rw [Bq.ahK_succ, ← hy]
    exact hyN.1.1
  · have := Bq.rdE_key (Bq.ahK k [] R) (Bq.reK k R)
    have h1 := h.small
    have h2 := h.key.len
    rw [← hy] at this
    omega
  · exact (h.below.trans (hb.mono h.below.size)).grown hg (Nat.le_trans h.below.size hb.size) (fun g hgg => (row4.row.lt g hgg).1)
  · rw [List.length_append, h.len]
    rfl
  · have h1 := Bq.rdR_len (Bq.reK k R)
    have h2 := h.short
    have h3 := hs.len
    have h4 := h.rest.len
    omega
set_option maxHeartbeats 4000000 in
set_option maxRecDepth 100000 in
theorem rparse_any (ao : Option Addr) (m c : Nat) (b : List UInt8) (w : World) (hm : m ≤ 140737488355328) (hs : Src w ao m c b) :
    Calls Tryz.prog 43 #[.slice ao m c] w (Parsed w b) := by
  obtain ⟨i0, hi, hz0, hz1, hz2⟩ := info_parts info5
  obtain ⟨e0, he0, hy0, hy1, hy2⟩ := info_parts3 infoE
  have HS := keep hs
  have HBL := keep hs.len
  have hlR := Bq.rOf_len b
  rw [hs.len] at hlR
  have TN := keep (rtakeNum_own ao m c b w hm hs)
  have FI := keep (Bq.parse_first (b := b))
  have HRD : Hid (Bq.rd b = Bq.rdL (min (nOf b) 8) [] (rOf b)) := rfl
  have FL := keep (fun k hk hf => Bq.parse_fault (b := b) (k := k) hk hf)
  have EO := Bq.eOf_or b
  obtain ⟨E, hE⟩ : ∃ E, eOf b = E := ⟨_, rfl⟩
  obtain ⟨N, hN⟩ : ∃ N, nOf b = N := ⟨_, rfl⟩
  obtain ⟨R, hR⟩ : ∃ R, rOf b = R := ⟨_, rfl⟩
  rw [hE] at TN FI EO
  rw [hN] at TN FI HRD FL
  rw [hR] at TN HRD FL hlR
  clear hE hN hR hs
  unfold TookN at TN
  go_enter Tryz.func43, Tryz.ntmps43
  go_wp2_with fail
  refine TN.out.mono ?_
  rintro e w1 ⟨a1, k1, rfl, hs1, h51, hb1⟩
  have B1 := keep hb1
  rcases EO with rfl | rfl
  · by_cases hN8 : 8 < N
    · have h8i : (8 : Int) < (N : Int) := by omega
      have PN := keep (FI.out (.inr hN8))
      clear hs1 h51 hb1 TN
      go_wp2
      go_ret2
      exact parsed_no PN.out B1.out
    · have h8i : ¬ (8 : Int) < (N : Int) := by omega
      have hmin : min N 8 = N := by omega
      rw [hmin] at HRD
      have I0 : Hid (RTake w R 0 [] (.slice none 0 0) none 0 0 a1 R.length k1 w1) := ⟨RowT.nil _ _, rfl, hs1, h51, src_nil w1, in5_none w1, by omega, hb1, rfl, Nat.le_refl _⟩
      clear hs1 h51 hb1 TN hmin
      obtain ⟨lR, hlR'⟩ : ∃ lR, R.length = lR := ⟨_, rfl⟩
      have HLR := keep hlR'
      rw [hlR'] at I0 hlR ⊢
      clear hlR'
      go_wp2
      go_loopw [5, 7, 8, 9] (fun vr vo va i wr => ∃ (k : Nat) (ys : List EV) (v : Value) (ap : Option Addr) (A ac : Nat) (rp : Option Addr) (M rc : Nat), k ≤ N ∧ vr = .slice rp M rc ∧ vo = v ∧ va = .slice ap A ac ∧ i = .int .i64 (k : Int) ∧ Hid (RTake w R k ys v ap A ac rp M rc wr)) (fun _ _ _ i _ => N - (intOf i).toNat)
      case atStart => exact ⟨0, [], _, _, _, _, _, _, _, Nat.zero_le _, rfl, rfl, rfl, rfl, I0.out⟩
      case round =>
        obtain ⟨k, ys, vo, ap, A, ac, rp, M, rc, hk, rfl, hvo, rfl, rfl, hI⟩ := hrel
        have hvo' := hvo.symm
        subst hvo'
        clear hvo I0
        by_cases hkC : k < N
        · have ll : (k : Int) < (N : Int) := by omega
          have hsm := hI.out.small
          have hsh := hI.out.short
          rw [HLR.out] at hsh
          have hAl := hI.out.key.len
          have hMl := hI.out.rest.len
          have FK := keep (FL.out k hkC)
          have EE : Hid (Bq.rdE (Bq.ahK k [] R) (Bq.reK k R) = ⟨(Bq.ahK k [] R).take (nOf (Bq.reK k R)) ++ Bq.tS (rOf (Bq.reK k R)) 64, ((nOf (Bq.tR (rOf (Bq.reK k R)) 64) / 2 : Nat) : Int), decide (nOf (Bq.tR (rOf (Bq.reK k R)) 64) % 2 = 1), Bq.tS (rOf (Bq.tR (rOf (Bq.reK k R)) 64)) 1024⟩) := rfl
          have ER : Hid (Bq.rdR (Bq.reK k R) = Bq.tR (rOf (Bq.tR (rOf (Bq.reK k R)) 64)) 1024) := rfl
          have NX := keep (fun (y : EV) W4 w5 rp' M' rc' v' hy hb hh hs h5 ho hg => RTake.next (w := w) (R := R) (y := y) (W4 := W4) (w5 := w5) (rp' := rp') (M' := M') (rc' := rc') (v' := v') hI.out hy hb hh hs h5 ho hg)
          have AH := keep hI.out.key
          have RE := keep hI.out.rest
          have AH5 := keep hI.out.key5
          have HB := keep hI.out.below
          have ROW := keep hI.out.row
          have HYL := keep hI.out.len
          obtain ⟨H, hH⟩ : ∃ H, Bq.ahK k [] R = H := ⟨_, rfl⟩
          obtain ⟨S0, hS0⟩ : ∃ S0, Bq.reK k R = S0 := ⟨_, rfl⟩
          rw [hH] at FK EE AH hAl NX
          rw [hS0] at FK EE ER RE hMl NX
          clear hH hS0 hI
          have l1 := Bq.rOf_len S0
          have l2 := Bq.tR_len (rOf S0) 64
          have l3 := Bq.rOf_len (Bq.tR (rOf S0) 64)
          have lS1 : (Bq.tS (rOf S0) 64).length ≤ 64 := Bq.tS_len (rOf S0) 64
          have T1 := keep (rtakeNum_own rp M rc S0 wr (by omega) RE.out)
          have T2 : Hid (∀ w' a k', Src w' a (rOf S0).length k' (rOf S0) → _) := fun w' a k' h => rtakeText_uni a (rOf S0).length k' (rOf S0) 64 w' (by omega) h
          have T3 : Hid (∀ w' a k', Src w' a (Bq.tR (rOf S0) 64).length k' (Bq.tR (rOf S0) 64) → _) := fun w' a k' h => rtakeNum_own a (Bq.tR (rOf S0) 64).length k' (Bq.tR (rOf S0) 64) w' (by omega) h
          have T4 : Hid (∀ w' a k', Src w' a (rOf (Bq.tR (rOf S0) 64)).length k' (rOf (Bq.tR (rOf S0) 64)) → _) := fun w' a k' h => rtakeText_uni a (rOf (Bq.tR (rOf S0) 64)).length k' (rOf (Bq.tR (rOf S0) 64)) 1024 w' (by omega) h
          have q1 := Bq.eOf_or S0
          have q2 := Bq.tE_or (rOf S0) 64
          have q3 := Bq.eOf_or (Bq.tR (rOf S0) 64)
          have q4 := Bq.tE_or (rOf (Bq.tR (rOf S0) 64)) 1024
          have ln2 := Bq.nOf_le (Bq.tR (rOf S0) 64)
          unfold Bq.fine at FK
          unfold TookN at T1 T3
          obtain ⟨R4, hR4⟩ : ∃ x, Bq.tR (rOf (Bq.tR (rOf S0) 64)) 1024 = x := ⟨_, rfl⟩
          obtain ⟨S3, hS3⟩ : ∃ x, Bq.tS (rOf (Bq.tR (rOf S0) 64)) 1024 = x := ⟨_, rfl⟩
          obtain ⟨E4, hE4⟩ : ∃ x, tE (rOf (Bq.tR (rOf S0) 64)) 1024 = x := ⟨_, rfl⟩
          rw [hR4] at T4 ER
          rw [hS3] at T4 EE
          rw [hE4] at T4 FK q4
          obtain ⟨R3, hR3⟩ : ∃ x, rOf (Bq.tR (rOf S0) 64) = x := ⟨_, rfl⟩
          obtain ⟨N3, hN3⟩ : ∃ x, nOf (Bq.tR (rOf S0) 64) = x := ⟨_, rfl⟩
          obtain ⟨E3, hE3⟩ : ∃ x, eOf (Bq.tR (rOf S0) 64) = x := ⟨_, rfl⟩
          rw [hR3] at T3 T4
          rw [hN3] at T3 EE ln2
          rw [hE3] at T3 FK q3
          obtain ⟨R2, hR2⟩ : ∃ x, Bq.tR (rOf S0) 64 = x := ⟨_, rfl⟩
          obtain ⟨S1, hS1⟩ : ∃ x, Bq.tS (rOf S0) 64 = x := ⟨_, rfl⟩
          obtain ⟨E2, hE2⟩ : ∃ x, tE (rOf S0) 64 = x := ⟨_, rfl⟩
          rw [hR2] at T2 T3
          rw [hS1] at T2 EE lS1
          rw [hE2] at T2 FK q2
          obtain ⟨R1, hR1⟩ : ∃ x, rOf S0 = x := ⟨_, rfl⟩
          obtain ⟨N1, hN1⟩ : ∃ x, nOf S0 = x := ⟨_, rfl⟩
          obtain ⟨E1, hE1⟩ : ∃ x, eOf S0 = x := ⟨_, rfl⟩
          rw [hR1] at T1 T2
          rw [hN1] at T1 EE FK
          rw [hE1] at T1 FK q1
          rw [hAl] at FK
          clear hR4 hS3 hE4 hR3 hN3 hE3 hR2 hS1 hE2 hR1 hN1 hE1 l1 l2 l3
          go_wp2_with fail
          refine T1.out.mono ?_
          rintro e w2 ⟨a2, k2, rfl, hs2, _, hb2⟩
          have b2 := keep hb2
          have S2 := keep hs2
          clear hb2 hs2 T1
          go_wp2_with fail
          refine (T2.out w2 a2 k2 S2.out).mono ?_
          rintro e w3 ⟨a3, k3, rfl, hs3, _, hb3⟩
          have b3 := keep (b2.out.trans (hb3.mono b2.out.size))
          have S3' := keep hs3
          clear hb3 hs3 T2 S2
          go_wp2_with fail
          refine (T3.out w3 a3 k3 S3'.out).mono ?_
          rintro e w4 ⟨a4, k4, rfl, hs4, _, hb4⟩
          have b4 := keep (b3.out.trans (hb4.mono b3.out.size))
          have S4 := keep hs4
          clear hb4 hs4 T3 S3'
          go_wp2_with fail
          refine (T4.out w4 a4 k4 S4.out).mono ?_
          rintro e w5 ⟨a5, k5, rfl, hs5, h55, hb5⟩
          have b5 := keep (b4.out.trans (hb5.mono b4.out.size))
          have S5 := keep hs5
          have I5 := keep h55
          clear hb5 hs5 T4 S4 h55
          have B5 := keep (HB.out.trans (b5.out.mono HB.out.size))
          rcases q1 with rfl | rfl
          case inr =>
            have PN := keep (FK.out (fun h => by cases h.1))
            go_wp2
            go_ret2
            exact parsed_no PN.out B5.out
          rcases q2 with rfl | rfl
          case inr =>
            have PN := keep (FK.out (fun h => by cases h.2.1))
            go_wp2
            go_ret2
            exact parsed_no PN.out B5.out
          rcases q3 with rfl | rfl
          case inr =>
            have PN := keep (FK.out (fun h => by cases h.2.2.1))
            go_wp2
            go_ret2
            exact parsed_no PN.out B5.out
          rcases q4 with rfl | rfl
          case inr =>
            have PN := keep (FK.out (fun h => by cases h.2.2.2.1))
            go_wp2
            go_ret2
            exact parsed_no PN.out B5.out
          by_cases hNA : A < N1
          · have hNAi : (A : Int) < (N1 : Int) := by omega
            have PN := keep (FK.out (fun h => by have := h.2.2.2.2; omega))
            go_wp2
            go_ret2
            exact parsed_no PN.out B5.out
          · have hNAi : ¬ (A : Int) < (N1 : Int) := by omega
            clear FK
            have A5 := keep (AH.out.below b5.out)
            have AT := keep (A5.out.head N1 (by omega))
            have hac := A5.out.cap
            have n0 : (0 : Int) ≤ (N1 : Int) := by omega
            have n1 : (N1 : Int) ≤ (A : Int) := by omega
            have n2 : (N1 : Int) ≤ (ac : Int) := by omega
            have hl1 : (H.take N1).length = N1 := by rw [List.length_take]; omega
            have HL1 := keep hl1
            clear hl1
            go_wp2_with (first
              | (at_builtin; refine wpList_append_own_string_if (by rfl) _ _ 24 9 rfl w5.heap.size i0 Tryz.underlying24 Tryz.underlying9 hi hz0 hz1 hz2 _ N1 (H.take N1) S1 S1.length rfl O6.out rfl rfl (by omega) b6.out.size ?_; intro v7 w7 ho7 hg7; have b7 := keep (b6.out.grown hg7 b6.out.size (fun j hj => (O6.out.lt j hj).1)); have O7 := keep ho7; clear ho7 hg7)
              | (at_builtin; refine wpList_append_src rfl _ _ 24 rfl w5.heap.size i0 _ Tryz.underlying24 hi hz0 hz1 hz2 rfl _ 0 [] rfl (own_emptyS (t := 5) (k := 1) (Nat.le_refl _)) _ N1 ac (H.take N1) rfl (AT.out.below ((Below.refl _ _).alloc (Nat.le_refl _) _)) (by omega) (le_alloc (Nat.le_refl _) _) ?_; intro v6 w6 ho6 hg6; have O6 := keep ho6; simp only [Nat.zero_add, List.nil_append] at O6; have b6 := keep (((Below.refl w5.heap.size w5).alloc (Nat.le_refl _) _).grown hg6 (le_alloc (Nat.le_refl _) _) (fun j hj => (by cases hj; exact Nat.le_refl _))); clear ho6 hg6))
            obtain ⟨a7, k7, rfl, hs7, _⟩ := Src.of_own O7.out
            have L7 : Hid ((H.take N1 ++ S1).length = N1 + S1.length) := hs7.len
            have cv := conv_str S3 S3.length rfl w7
            obtain ⟨kV, hkV⟩ : ∃ kV, grownCap w7 S3.length 0 5 = kV := ⟨_, rfl⟩
            have S8 : Hid (Src (Lib.bytesWorld w7 5 ⟨S3.toArray⟩) (some ⟨w7.heap.size, 0, none⟩) S3.length kV S3) := by rw [← hkV]; exact Src.converted w7 S3 S3.length rfl
            have b8 := keep (below_bytesWorld w7 ⟨S3.toArray⟩)
            have I8 := keep (in5_conv w7 ⟨S3.toArray⟩)
            rw [hkV] at cv
            obtain ⟨W8, hW8⟩ : ∃ W8, Lib.bytesWorld w7 5 ⟨S3.toArray⟩ = W8 := ⟨_, rfl⟩
            rw [hW8] at cv S8 b8 I8
            clear hkV hW8
            have X1 : Hid ((N3 : Int) / 2 = ((N3 / 2 : Nat) : Int)) := by show _ = _; omega
            have X2 : Hid (((N3 : Int) % 2 == 1) = decide (N3 % 2 = 1)) := by
              show _ = _
              cases h : decide (N3 % 2 = 1) with
              | true => have := of_decide_eq_true h; simp; omega
              | false => have := of_decide_eq_false h; simp; omega
            rw [← X1.out, ← X2.out] at EE
            have b78 := keep (b7.out.trans (b8.out.mono b7.out.size))
            have K8 : Hid (Src W8 a7 (N1 + S1.length) k7 (H.take N1 ++ S1)) := hs7.below b8.out
            have J8 := keep ((in5_own O7.out).turn (T5.of_below b8.out))
            clear hs7
            obtain ⟨y, hy⟩ : ∃ y : EV, y = ⟨a7, k7, some ⟨w7.heap.size, 0, none⟩, kV, ⟨H.take N1 ++ S1, (N3 : Int) / 2, ((N3 : Int) % 2 == 1), S3⟩⟩ := ⟨_, rfl⟩
            have b9 := keep ((Below.refl W8.heap.size W8).alloc (Nat.le_refl _) (.cells (entKind.vals y).toArray 37))
            have HT9 : Hid (HeldT (W8.alloc (.cells (entKind.vals y).toArray 37)) y) := by
              refine HeldT.turn ?_ (T5.of_below b9.out)
              rw [hy]
              refine ⟨⟨?_, S8.out⟩, J8.out, I8.out⟩
              show Src W8 a7 (H.take N1 ++ S1).length k7 (H.take N1 ++ S1)
              rw [L7.out]
              exact K8.out
            have bw9 := keep (b5.out.trans ((b78.out.trans (b9.out.mono b78.out.size)).mono b5.out.size))
            have b59 := keep (b78.out.trans (b9.out.mono b78.out.size))
            have R9 := keep (ROW.out.below bw9.out)
            have rc9 := keep (rec_cells (k := entKind) W8 37 y)
            have NY := keep (fun w5 v' ho hg => NX.out y _ w5 a5 R4.length k5 v' (by rw [hy, EE.out]) bw9.out HT9.out (by rw [ER.out]; exact S5.out.below b59.out) (I5.out.turn (T5.of_below b59.out)) ho hg)
            have HKW : Hid (w.heap.size ≤ (W8.alloc (.cells (entKind.vals y).toArray 37)).heap.size) := Nat.le_trans HB.out.size bw9.out.size
            have VY : Hid ((entKind.vals y).toArray = #[.slice a7 (N1 + S1.length) k7, .int .i64 ((N3 : Int) / 2), .bool ((N3 : Int) % 2 == 1), .slice (some ⟨w7.heap.size, 0, none⟩) S3.length kV]) := by show _ = _; rw [hy, ← L7.out]; rfl
            have KY : Hid (y.kp = a7 ∧ y.e.key.length = N1 + S1.length ∧ y.kc = k7) := by rw [hy]; exact ⟨rfl, L7.out, rfl⟩
            rw [VY.out] at HT9 bw9 b59 R9 rc9 HKW NY
            have HYY := keep hy
            clear hy b9 NX
            obtain ⟨kn, hkn⟩ : ∃ kn, N1 + S1.length = kn := ⟨_, rfl⟩
            rw [hkn] at HT9 bw9 b59 R9 rc9 HKW NY KY ⊢
            clear hkn
            rw [cv]
            clear cv
            go_simp
            go_wp2_with (at_builtin; go_loud (refine wpList_append_rec entKind_ok rfl _ _ 22 37 rfl w.heap.size e0 _ 64 Tryz.underlying22 he0 hy0 hy1 hy2 rfl _ ys.length ys rfl R9.out.row _ 1 y rfl rc9.out (by have := HYL.out; unfold maxLen; omega) (by have := HYL.out; omega) HKW.out ?_); intro v10 w10 ho10 hg10; have N10 := keep (NY.out w10 v10 ho10 hg10); clear ho10 hg10)
            rw [KY.out.1, KY.out.2.1, KY.out.2.2] at N10
            go_roundw
            case rel => exact ⟨k + 1, _, _, _, _, _, _, _, _, by omega, rfl, rfl, rfl, by first | rfl | go_num, N10.out⟩
            case measure => simp [intOf]; omega
        · obtain rfl : k = N := by omega
          have ll : ¬ (k : Int) < (k : Int) := by omega
          obtain ⟨ao2, c2, rfl, hs2⟩ := hI.out.row.src
          have he2 := hI.out.ents
          rw [← HRD.out] at he2
          have B2 := keep hI.out.below
          have S2 := keep hs2
          have FAR : Hid (∀ ad, ao2 = some ad → w.heap.size ≤ ad.block) := fun ad had => by subst had; exact (hI.out.row.row.lt _ rfl).1
          have T2 : Hid (∀ y ∈ ys, HeldT wr y) := hI.out.row.each
          have HE := keep he2
          have BB := keep (rbuild_any ao2 ys.length c2 ys wr hs2 (fun y hy => by
            have hm : y.e ∈ Bq.rd b := by rw [← he2]; exact List.mem_map_of_mem hy
            exact Bq.rd_bound hm))
          rw [he2] at BB
          clear hs2 he2 hI
          obtain ⟨n, hn⟩ : ∃ n, ys.length = n := ⟨_, rfl⟩
          rw [hn] at BB S2 ⊢
          clear hn
          go_wp2_with fail
          refine BB.out.mono ?_
          rintro e w3 (⟨hok, a3, c3, rfl, ho3, hb3⟩ | ⟨hok, rfl, hb3⟩)
          · obtain ⟨_, _, e3, hs3, _⟩ := Src.of_own ho3
            cases e3
            have B3 := keep (B2.out.trans (hb3.mono B2.out.size))
            have S3 := keep (S2.out.below entKind_ok hb3)
            have HB3 := keep hb3
            have EQ := keep (same_any a3 _ c3 _ ao m c b w3 hs3 (HS.out.below B3.out))
            have OK := keep hok
            clear hs3 ho3 hb3 hok BB
            obtain ⟨nb, hnb⟩ : ∃ nb, (Bq.blk (Bq.rd b)).length = nb := ⟨_, rfl⟩
            rw [hnb] at EQ ⊢
            clear hnb
            by_cases hq : Bq.blk (Bq.rd b) = b
            · rw [decide_eq_true hq] at EQ
              have PS : Hid (Bq.parse b = some (Bq.rd b)) := if_pos ⟨OK.out, hq⟩
              clear hq
              go_wp2_with fail
              refine EQ.out.mono ?_
              rintro e w4 ⟨rfl, hb4⟩
              have B4 := keep (B3.out.trans (hb4.mono B3.out.size))
              have S4 := keep (S3.out.below entKind_ok hb4)
              have HB4 := keep hb4
              clear hb4
              go_wp2
              go_ret2
              exact parsed_yes PS.out S4.out HE.out FAR.out B4.out (fun y hy => ((T2.out y hy).turn (T5.of_below HB3.out)).turn (T5.of_below HB4.out))
            · rw [decide_eq_false hq] at EQ
              have PS : Hid (Bq.parse b = none) := if_neg (fun h => hq h.2)
              clear hq
              go_wp2_with fail
              refine EQ.out.mono ?_
              rintro e w4 ⟨rfl, hb4⟩
              have B4 := keep (B3.out.trans (hb4.mono B3.out.size))
              clear hb4
              go_wp2
              go_ret2
              exact parsed_no PS.out B4.out
          · have B3 := keep (B2.out.trans (hb3.mono B2.out.size))
            have PS : Hid (Bq.parse b = none) := if_neg (fun h => by rw [hok] at h; cases h.1)
            clear hb3 hok BB
            go_wp2
            go_ret2
            exact parsed_no PS.out B3.out
  · have PN := keep (FI.out (.inl (by decide)))
    clear hs1 h51 hb1 TN
    go_wp2
    go_ret2
    exact parsed_no PN.out B1.out
end Go.Proofs.YtjblicgbdecbcaaGreat
namespace Go.Proofs.YtjblicgbdecbcaaGreat
open Go.RowKit
open Sk (Ent)

/-- append(v, row...), the row empty or not, in a plain region. -/
theorem wpList_append_rows {P : Program} {w : World} {ops : Array Oper} {rest : List Oper} {o : Oper} {a : Act} {Q : Exit → Act → World → Prop} (hgd : o.guard = none) (s x : Operand) (t e : TypeId)
    (ho : o.op = .call { callee := .builtin .append, args := #[s, x], argTypes := #[t, t] })
    (base : Nat) (i : TypeInfo) (z : Value) (size bytes : Nat) (ht : P.underlying t = some (.slice e)) (hi : P.info? e = some i) (hz : i.zero = some z)
    (hsize : i.size = size) (hby : i.bytes = bytes) (hzs : z.cells.size = size) (hsz : 0 < size)
    (v : Value) (n : Nat) (xs : List Value) (hs : a.eval s = v) (hown : w.ownsRow base e size v n xs)
    (ao : Option Addr) (m c : Nat) (news : List Value) (hx : a.eval x = .slice ao m c) (hnil : ao = none → m = 0 ∧ c = 0) (hl : news.length = m * size) (hnews : ∀ ad, ao = some ad → ∀ j u, news[j]? = some u → w.cell? (ad.add j) = some u) (h1 : ∀ u ∈ news, u.oneCell' = true)
    (h63 : n + m ≤ maxLen) (hbytes : (n + m) * bytes ≤ 140737488355328) (hbase : base ≤ w.heap.size)
    (h : ∀ v' w', w'.ownsRow base e size v' (n + m) (xs ++ news) → w.grownBy w' v.ownBlock → wpList P ops Q rest (a.put o.dst v') w') : wpList P ops Q (o :: rest) a w := by
  refine wpList_step fun K' hK => ?_
  have hw : Region.wanted o (yielded ops a.tmps) = true := by simp [Region.wanted, hgd]
  rw [if_pos hw]
  cases ao with
  | some ad =>
    obtain ⟨v', w', hr, h2, h3, _⟩ := run_append_own (P := P) w base t o.type e i z size bytes ht hi hz hsize hby hzs hsz v n xs hown ad m c news hl (hnews ad rfl) h1 h63 hbytes hbase
    unfold Oper.wp
    simp [execOp, ho, resolve, invoke, builtin, hs, hx, hr, Result.andThen]
    exact hK _ _ (h v' w' h2 h3)
  | none =>
    obtain ⟨rfl, rfl⟩ := hnil rfl
    obtain rfl : news = [] := List.length_eq_zero_iff.1 (by rw [hl, Nat.zero_mul])
    have hrun := run_append_owned_none (P := P) (w := w) base t o.type e i size ht hi v n xs hown
    unfold Oper.wp
    simp [execOp, ho, resolve, invoke, builtin, hs, hx, hrun, Result.andThen]
    exact hK _ _ (h v w (by rw [List.append_nil]; exact hown) (World.grownBy.refl _ _))
/-- How far the document's Parse has come. -/
structure RTab (w : World) (R : List UInt8) (k : Nat) (ys : List EV) (v : Value) (rp : Option Addr) (M rc : Nat) (wr : World) : Prop where
  row : RowT w.heap.size wr v ys
  ents : ys.map (·.e) = (Tq.readP k R).flatMap Tq.pl
  rest : Src wr rp M rc (Tq.readR k R)
  rest5 : In5 wr rp
  below : Below w.heap.size w wr
  len : ys.length ≤ 8 * k
  short : M ≤ R.length
theorem pl_some {p : List UInt8} {l : List Ent} (h : Bq.parse p = some l) : Tq.pl p = l ∧ l.length ≤ 8 := by
  refine ⟨by unfold Tq.pl; rw [h]; rfl, (Bq.okB_len (Bq.parse_some h).1).2⟩
/-- One text more, a block. -/
theorem RTab.next {w : World} {R : List UInt8} {k : Nat} {ys zs : List EV} {v v' : Value} {rp rp' : Option Addr} {M rc M' rc' : Nat} {wr W4 w5 : World} (h : RTab w R k ys v rp M rc wr) (hb : Below wr.heap.size wr W4) {s r' : List UInt8} (ht : txt (Tq.readR k R) 1048576 = some (s, r')) {l : List Ent} (hp : Bq.parse s = some l) (hz : zs.map (·.e) = l) (hh : ∀ y ∈ zs, HeldT W4 y)
    (hs : Src W4 rp' M' rc' r') (h5 : In5 W4 rp') (hM : M' ≤ R.length) (ho : w5.ownsRow w.heap.size 37 4 v' (ys.length + zs.length) (rv entKind (ys ++ zs))) (hg : W4.grownBy w5 v.ownBlock) : RTab w R (k + 1) (ys ++ zs) v' rp' M' rc' w5 := by
  have h4 := h.row.below hb
  have t5 : T5 W4 w5 := T5.of_grown h4.row (by decide) hg
  have hm := Tq.txt_more ht
  have hl := pl_some hp
  have hzl : zs.length = l.length := by rw [← hz, List.length_map]
  have B4 := h.below.trans (hb.mono h.below.size)
  refine ⟨⟨by rw [List.length_append]; exact ho, fun y hy => ?_⟩, ?_, ?_, h5.turn t5, B4.grown hg B4.size (fun j hj => (h4.row.lt j hj).1), ?_, hM⟩
  · rcases List.mem_append.1 hy with hy | hy
    · exact (h4.each y hy).turn t5
    · exact (hh y hy).turn t5
  · rw [List.map_append, h.ents, hz, Tq.readP_succ, List.flatMap_append, hm.1]
    simp [hl.1]
  · rw [Tq.readR_succ, hm.2]
    exact src_turn hs h5 t5
  · rw [List.length_append]
    have := h.len
    have := hl.2
    omega
end Go.Proofs.YtjblicgbdecbcaaGreat
namespace Go.Proofs.YtjblicgbdecbcaaGreat
open Go.RowKit
open Sk (Ent)

/-- The answer of the document's Parse. -/
def RParsed (w : World) (b : List UInt8) (e : Ending) (w' : World) : Prop :=
  (∃ (L : List Ent) (ao : Option Addr) (c : Nat) (ys : List EV), Tq.tparse b = some L ∧ e = .returned (.tuple #[.slice ao ys.length c, .int .i64 0]) ∧ RSrc entKind w' ao ys.length c ys ∧ ys.map (·.e) = L ∧ Below w.heap.size w w') ∨
  (Tq.tparse b = none ∧ e = .returned (.tuple #[.slice none 0 0, .int .i64 2]) ∧ Below w.heap.size w w')
theorem rparsed_no {w w' : World} {b : List UInt8} (h : Tq.tparse b = none) (hb : Below w.heap.size w w') : RParsed w b (.returned (.tuple #[.slice none 0 0, .int .i64 2])) w' := .inr ⟨h, rfl, hb⟩
theorem rparsed_yes {w w' : World} {b : List UInt8} {L : List Ent} {ao : Option Addr} {n c : Nat} {ys : List EV} (h : Tq.tparse b = some L) (hs : RSrc entKind w' ao n c ys) (he : ys.map (·.e) = L) (hb : Below w.heap.size w w') : RParsed w b (.returned (.tuple #[.slice ao n c, .int .i64 0])) w' := by
  have := hs.len
  subst this
  exact .inl ⟨L, ao, c, ys, h, rfl, hs, he, hb⟩
theorem no_of {b : List UInt8} (h : ∀ l, Tq.tparse b = some l → False) : Tq.tparse b = none := by
  cases hp : Tq.tparse b with
  | none => rfl
  | some l => exact (h l hp).elim
theorem pl_few {p : List UInt8} : (Tq.pl p).length ≤ 8 := by
  cases h : Bq.parse p with
  | none => unfold Tq.pl; rw [h]; simp
  | some l => rw [(pl_some h).1]; exact (pl_some h).2
set_option maxHeartbeats 1500000 in
set_option maxRecDepth 100000 in
theorem rtparse_any (ao : Option Addr) (m c : Nat) (b : List UInt8) (w : World) (hm : m ≤ 140737488355328) (hs : Src w ao m c b) :
    Calls Tryz.prog 12 #[.slice ao m c] w (RParsed w b) := by
  obtain ⟨i0, hi0, hz0, hz1, hz2⟩ := info_parts22q infoE
  have HS := keep hs
  have HBL := keep hs.len
  by_cases h4 : m < 4
  · have l4 : (m : Int) < 4 := by omega
    have PN : Hid (Tq.tparse b = none) := no_of (fun l hl => by have := (Tq.tparse_head hl).1; have := HBL.out; omega)
    clear hs h4
    go_enter Tryz.func12, Tryz.ntmps12
    go_wp2
    go_ret2
    exact rparsed_no PN.out (Below.refl _ _)
  have l4 : ¬ (m : Int) < 4 := by omega
  have hcap := hs.cap
  have l4b : (4 : Int) ≤ (m : Int) := by omega
  have l4c : (4 : Int) ≤ (c : Int) := by omega
  have TN0 : Hid (∀ (a2 : Option Addr) (m2 c2 : Nat), Src w a2 m2 c2 (b.drop 4) → Calls Tryz.prog 41 #[.slice a2 m2 c2] w (TookN w (nOf (b.drop 4)) (rOf (b.drop 4)) (eOf (b.drop 4)))) := fun a2 m2 c2 h => rtakeNum_own a2 m2 c2 (b.drop 4) w (by have h1 := h.len; have h2 := HBL.out; rw [List.length_drop] at h1; omega) h
  have EO := Bq.eOf_or (b.drop 4)
  have hlR := Bq.rOf_len (b.drop 4)
  rw [List.length_drop, HBL.out] at hlR
  have STEP := keep (fun l (hl : Tq.tparse b = some l) k hk => Tq.tparse_step hl (k := k) hk)
  have HEAD := keep (fun l (hl : Tq.tparse b = some l) => Tq.tparse_head hl)
  have RDA := keep (Tq.rd_all (b := b))
  have NLT : Hid (nOf (b.drop 4) < 4611686018427387904) := Bq.nOf_le _
  obtain ⟨E, hE⟩ : ∃ E, eOf (b.drop 4) = E := ⟨_, rfl⟩
  obtain ⟨N, hN⟩ : ∃ N, nOf (b.drop 4) = N := ⟨_, rfl⟩
  obtain ⟨R, hR⟩ : ∃ R, rOf (b.drop 4) = R := ⟨_, rfl⟩
  rw [hE] at TN0 EO HEAD
  rw [hN] at TN0 STEP HEAD RDA NLT
  rw [hR] at TN0 hlR STEP HEAD RDA
  clear hE hN hR
  unfold TookN at TN0
  go_enter Tryz.func12, Tryz.ntmps12
  go_upto_region 3 with fail
  refine region_share (fun a a' w' => ∃ (v20 v21 : Value) (a2 : Option Addr) (c2 : Nat), a' = sets a [(20, v20), (21, v21), (0x16, .tuple #[.int .i64 (N : Int), .slice a2 R.length c2, .int .i64 E]), (19, .tuple #[.int .i64 (N : Int), .slice a2 R.length c2, .int .i64 E]), (23, .int .i64 (N : Int)), (24, .slice a2 R.length c2), (25, .int .i64 E), (4, .int .i64 (N : Int)), (5, .slice a2 R.length c2), (6, .int .i64 E)] ∧ Src w' a2 R.length c2 R ∧ In5 w' a2 ∧ Below w.heap.size w w') ?_ ?_
  · by_cases hc4 : c = 4
    · have X2 : Hid (Src w ao 0 0 (b.drop 4)) := HS.out.tail0 4 hc4.symm
      have hm4 : m = 4 := by omega
      subst hm4
      subst hc4
      clear hs h4 hcap
      go_wp2_with fail
      refine (TN0.out _ _ _ X2.out).mono ?_
      rintro e w2 ⟨a2, c2, rfl, hs2, h52, hb2⟩
      have S2 := keep hs2
      have I2 := keep h52
      have B2 := keep hb2
      clear hs2 h52 hb2
      go_wp2
      exact ⟨_, _, a2, c2, (by simp only [sets, Act.put, List.setIfInBounds_toArray, List.set_cons_zero, List.set_cons_succ]; all_goals rfl), S2.out, I2.out, B2.out⟩
    · have X2 : Hid (Src w (Option.map (fun x => x.add 4) ao) (m - 4) (c - 4) (b.drop 4)) := HS.out.tail 4 (by omega)
      clear hs h4
      go_wp2_with fail
      refine (TN0.out _ _ _ X2.out).mono ?_
      rintro e w2 ⟨a2, c2, rfl, hs2, h52, hb2⟩
      have S2 := keep hs2
      have I2 := keep h52
      have B2 := keep hb2
      clear hs2 h52 hb2
      go_wp2
      exact ⟨_, _, a2, c2, (by simp only [sets, Act.put, List.setIfInBounds_toArray, List.set_cons_zero, List.set_cons_succ]; all_goals rfl), S2.out, I2.out, B2.out⟩
  rintro a' w1 ⟨v20, v21, a1, k1, rfl, hs1, h51, hb1⟩
  simp only [sets, Act.put, List.setIfInBounds_toArray, List.set_cons_zero, List.set_cons_succ]
  have B1 := keep hb1
  rcases EO with rfl | rfl
  · by_cases hN8 : 8 < N
    · have h8i : (8 : Int) < (N : Int) := by omega
      have PN : Hid (Tq.tparse b = none) := no_of (fun l hl => by
        have h1 := (HEAD.out l hl).2.2.1
        have h2 := (Tq.cnt_le (Tq.tparse_some hl).1).2
        omega)
      clear hs1 h51 hb1 hs h4
      go_wp2
      go_ret2
      exact rparsed_no PN.out B1.out
    · have h8i : ¬ (8 : Int) < (N : Int) := by omega
      have RD := keep (RDA.out (by omega))
      have I0 : Hid (RTab w R 0 [] (.slice none 0 0) a1 R.length k1 w1) := ⟨RowT.nil _ _, by simp [Tq.readP], hs1, h51, hb1, Nat.le_refl _, Nat.le_refl _⟩
      obtain ⟨lR, hlR'⟩ : ∃ lR, R.length = lR := ⟨_, rfl⟩
      have HLR := keep hlR'
      rw [hlR'] at I0 hlR ⊢
      clear hs1 h51 hb1 hlR' hs h4
      go_wp2
      go_loopw [5, 7, 8] (fun vr vo i wr => ∃ (k : Nat) (ys : List EV) (v : Value) (rp : Option Addr) (M rc : Nat), k ≤ N ∧ vr = .slice rp M rc ∧ vo = v ∧ i = .int .i64 (k : Int) ∧ Hid (RTab w R k ys v rp M rc wr)) (fun _ _ i _ => N - (intOf i).toNat)
      case atStart => exact ⟨0, [], _, _, _, _, Nat.zero_le _, rfl, rfl, rfl, I0.out⟩
      case round =>
        obtain ⟨k, ys, vo, rp, M, rc, hk, rfl, hvo, rfl, hI⟩ := hrel
        have hvo' := hvo.symm
        subst hvo'
        clear hvo I0
        by_cases hkN : k < N
        · have ll : (k : Int) < (N : Int) := by omega
          have hsh := hI.out.short
          rw [HLR.out] at hsh
          have hMl := hI.out.rest.len
          have TT := keep (rtakeTextO_any rp M rc (Tq.readR k R) 1048576 wr (by omega) hI.out.rest)
          have STK := keep (fun l hl => STEP.out l hl k hkN)
          have II := keep hI.out
          obtain ⟨Q, hQ⟩ : ∃ Q, Tq.readR k R = Q := ⟨_, rfl⟩
          have HQ := keep hQ
          rw [hQ] at TT STK hMl
          clear hI hQ
          unfold TookO at TT
          go_wp2_with fail
          refine TT.out.mono ?_
          rintro e w4 (⟨S, Z, a4, c4, ht, rfl, hs4, h54, hb4⟩ | ⟨ht, rfl, hb4⟩)
          · have hSl : S.length ≤ M ∧ Z.length ≤ M := by
              have h1 := Tq.tS_short Q 1048576
              have h2 := Bq.tR_len Q 1048576
              have e1 : Bq.tS Q 1048576 = S := by simp [Bq.tS, ht]
              have e2 : Bq.tR Q 1048576 = Z := by simp [Bq.tR, ht]
              rw [e1] at h1
              rw [e2] at h2
              omega
            have cv := conv_str S S.length rfl w4
            obtain ⟨kS, hkS⟩ : ∃ kS, grownCap w4 S.length 0 5 = kS := ⟨_, rfl⟩
            have S5 : Hid (Src (Lib.bytesWorld w4 5 ⟨S.toArray⟩) (some ⟨w4.heap.size, 0, none⟩) S.length kS S) := by rw [← hkS]; exact Src.converted w4 S S.length rfl
            have b5 := keep (below_bytesWorld w4 ⟨S.toArray⟩)
            rw [hkS] at cv
            obtain ⟨W5, hW5⟩ : ∃ W5, Lib.bytesWorld w4 5 ⟨S.toArray⟩ = W5 := ⟨_, rfl⟩
            rw [hW5] at cv S5 b5
            clear hkS hW5
            have B5 := keep (hb4.trans (b5.out.mono hb4.size))
            have PP := keep (rparse_any (some ⟨w4.heap.size, 0, none⟩) S.length kS S W5 (by omega) S5.out)
            have HT := keep ht
            have S4 := keep (hs4.below b5.out)
            have I4 := keep (h54.turn (T5.of_below b5.out))
            obtain ⟨lZ, hlZ⟩ : ∃ lZ, Z.length = lZ := ⟨_, rfl⟩
            rw [hlZ] at S4 hSl ⊢
            clear hs4 h54 hb4 TT ht hlZ
            go_wp2_with fail
            refine PP.out.mono ?_
            rintro e w6 (⟨l, a6, c6, zs, hp, rfl, hs6, hz6, _, hb6, hh6⟩ | ⟨hp, rfl, hb6⟩)
            · have B6 := keep (B5.out.trans (hb6.mono B5.out.size))
              have R6 := keep (II.out.row.below B6.out)
              have hzl : zs.length ≤ 8 := by
                have h1 := (pl_some hp).2
                have h2 := congrArg List.length hz6
                rw [List.length_map] at h2
                omega
              have hyl : ys.length ≤ 64 := by have := II.out.len; omega
              have NX := keep (fun v7 w7 ho7 hg7 => II.out.next (v' := v7) (w5 := w7) B6.out (by rw [HQ.out]; exact HT.out) hp hz6 hh6 (S4.out.below hb6) (I4.out.turn (T5.of_below hb6)) (by have := HLR.out; omega) ho7 hg7)
              have C6 := keep hs6
              have BW6 := keep (II.out.below.trans (B6.out.mono II.out.below.size))
              clear hp hs6 hz6 hb6 hh6 PP
              go_wp2_with (at_builtin; go_loud (refine wpList_append_rows rfl _ _ 22 37 rfl w.heap.size i0 _ 4 64 Tryz.underlying22 hi0 hz0 hz1 hz2 rfl (by decide) _ ys.length (rv entKind ys) rfl R6.out.row a6 zs.length c6 (rv entKind zs) rfl (fun h => C6.out.nil h) (by rw [rv_length entKind_ok]; rfl) (fun ad had j u hu => C6.out.cells ad had j u hu) (rv_one entKind_ok _) (by unfold maxLen; omega) (by omega) BW6.out.size ?_); intro v7 w7 ho7 hg7; have N7 := keep (NX.out v7 w7 (by rw [rv_append]; exact ho7) hg7); clear ho7 hg7)
              go_roundw
              case rel => exact ⟨k + 1, ys ++ zs, _, _, _, _, by omega, rfl, rfl, by first | rfl | go_num, N7.out⟩
              case measure => simp [intOf]; omega
            · have B6 := keep (II.out.below.trans ((B5.out.trans (hb6.mono B5.out.size)).mono II.out.below.size))
              have PN : Hid (Tq.tparse b = none) := no_of (fun l hl => by
                obtain ⟨h1, h2⟩ := STK.out l hl
                rw [HT.out] at h1
                cases h1
                rw [hp] at h2
                cases h2)
              clear hp hb6 PP
              go_wp2
              go_ret2
              exact rparsed_no PN.out B6.out
          · have PN : Hid (Tq.tparse b = none) := no_of (fun l hl => by
              obtain ⟨h1, _⟩ := STK.out l hl
              rw [ht] at h1
              cases h1)
            have cv := conv_str ([] : List UInt8) ([] : List UInt8).length rfl w4
            obtain ⟨kS, hkS⟩ : ∃ kS, grownCap w4 ([] : List UInt8).length 0 5 = kS := ⟨_, rfl⟩
            have S5 : Hid (Src (Lib.bytesWorld w4 5 ⟨([] : List UInt8).toArray⟩) (some ⟨w4.heap.size, 0, none⟩) ([] : List UInt8).length kS ([] : List UInt8)) := by rw [← hkS]; exact Src.converted w4 ([] : List UInt8) ([] : List UInt8).length rfl
            have b5 := keep (below_bytesWorld w4 ⟨([] : List UInt8).toArray⟩)
            rw [hkS] at cv
            obtain ⟨W5, hW5⟩ : ∃ W5, Lib.bytesWorld w4 5 ⟨([] : List UInt8).toArray⟩ = W5 := ⟨_, rfl⟩
            rw [hW5] at cv S5 b5
            clear hkS hW5
            have B5 := keep (hb4.trans (b5.out.mono hb4.size))
            have PP := keep (rparse_any (some ⟨w4.heap.size, 0, none⟩) ([] : List UInt8).length kS ([] : List UInt8) W5 (by decide) S5.out)
            have BW := keep (II.out.below.trans (B5.out.mono II.out.below.size))
            clear hb4 TT ht
            go_wp2_with fail
            refine PP.out.mono ?_
            rintro e w6 (⟨l, a6, c6, zs, hp, rfl, hs6, hz6, _, hb6, hh6⟩ | ⟨hp, rfl, hb6⟩)
            · have B6 := keep (BW.out.trans (hb6.mono BW.out.size))
              clear hp hs6 hz6 hb6 hh6 PP
              go_wp2
              go_ret2
              exact rparsed_no PN.out B6.out
            · have B6 := keep (BW.out.trans (hb6.mono BW.out.size))
              clear hp hb6 PP
              go_wp2
              go_ret2
              exact rparsed_no PN.out B6.out
        · obtain rfl : k = N := by omega
          have ll : ¬ (k : Int) < (k : Int) := by omega
          obtain ⟨ao2, c2, rfl, hs2⟩ := hI.out.row.src
          have he2 := hI.out.ents
          rw [← RD.out] at he2
          have B2 := keep hI.out.below
          have S2 := keep hs2
          have HE := keep he2
          have BB := keep (rtbuild_any ao2 ys.length c2 ys wr hs2 (fun y hy => by
            have hm : y.e ∈ Tq.rd b := by rw [← he2]; exact List.mem_map_of_mem hy
            obtain ⟨p, _, hp⟩ := List.mem_flatMap.1 hm
            have := (pl_small p).2 y.e hp
            omega))
          rw [he2] at BB
          clear hs2 he2 hI
          obtain ⟨n, hn⟩ : ∃ n, ys.length = n := ⟨_, rfl⟩
          rw [hn] at BB S2 ⊢
          clear hn
          go_wp2_with fail
          refine BB.out.mono ?_
          rintro e w3 (⟨hok, a3, c3, rfl, ho3, hb3⟩ | ⟨hok, rfl, hb3⟩)
          · obtain ⟨_, _, e3, hs3, _⟩ := Src.of_own ho3
            cases e3
            have B3 := keep (B2.out.trans (hb3.mono B2.out.size))
            have S3 := keep (S2.out.below entKind_ok hb3)
            have EQ := keep (same_any a3 _ c3 _ ao m c b w3 hs3 (HS.out.below B3.out))
            have OK := keep hok
            clear hs3 ho3 hb3 hok BB
            obtain ⟨nb, hnb⟩ : ∃ nb, (Tq.tab (Tq.rd b)).length = nb := ⟨_, rfl⟩
            rw [hnb] at EQ ⊢
            clear hnb
            by_cases hq : Tq.tab (Tq.rd b) = b
            · rw [decide_eq_true hq] at EQ
              have PS : Hid (Tq.tparse b = some (Tq.rd b)) := if_pos ⟨OK.out, hq⟩
              clear hq
              go_wp2_with fail
              refine EQ.out.mono ?_
              rintro e w4 ⟨rfl, hb4⟩
              have B4 := keep (B3.out.trans (hb4.mono B3.out.size))
              have S4 := keep (S3.out.below entKind_ok hb4)
              clear hb4
              go_wp2
              go_ret2
              exact rparsed_yes PS.out S4.out HE.out B4.out
            · rw [decide_eq_false hq] at EQ
              have PS : Hid (Tq.tparse b = none) := Tq.tparse_no (fun h => hq h.2)
              clear hq
              go_wp2_with fail
              refine EQ.out.mono ?_
              rintro e w4 ⟨rfl, hb4⟩
              have B4 := keep (B3.out.trans (hb4.mono B3.out.size))
              clear hb4
              go_wp2
              go_ret2
              exact rparsed_no PS.out B4.out
          · have B3 := keep (B2.out.trans (hb3.mono B2.out.size))
            have PS : Hid (Tq.tparse b = none) := Tq.tparse_no (fun h => by rw [hok] at h; cases h.1)
            clear hb3 hok BB
            go_wp2
            go_ret2
            exact rparsed_no PS.out B3.out
  · have PN : Hid (Tq.tparse b = none) := no_of (fun l hl => by
      have h1 := (HEAD.out l hl).2.1
      cases h1)
    clear hs1 h51 hb1 hs h4
    go_wp2
    go_ret2
    exact rparsed_no PN.out B1.out
end Go.Proofs.YtjblicgbdecbcaaGreat
