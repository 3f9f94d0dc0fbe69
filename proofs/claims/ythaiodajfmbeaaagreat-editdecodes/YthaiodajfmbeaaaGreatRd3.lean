/- The walk of the document's Decode. -/
import Derived.Test.YthaiodajfmbeaaaGreatRd2
import Derived.Test.YthaiodajfmbeaaaGreatHz
import Derived.Test.YthaiodajfmbeaaaGreatHt
namespace Go.Proofs.YthaiodajfmbeaaaGreat
open Go.RowKit
open Ed (Nt)

/-- A version's notes in memory of their own, their bytes in blocks of bytes: the document's. -/
def FirmD (B : Nat) (w : World) (x : VV) : Prop := w.ownsRow B 53 5 (.slice x.p x.n x.c) x.n (rv metaKind x.es) ∧ ∀ y ∈ x.es, In5 w y.fp ∧ In5 w y.lp ∧ metaKind.held w y
theorem FirmD.held {B : Nat} {w : World} {x : VV} (h : FirmD B w x) : VV.held w x := by
  obtain ⟨q2, c2, e2, h2, _⟩ := RSrc.own metaKind_ok h.1 (fun y hy => (h.2 y hy).2.2)
  cases e2
  exact h2
theorem FirmD.below {B : Nat} {w w' : World} {x : VV} (h : FirmD B w x) (hb : Below w.heap.size w w') : FirmD B w' x :=
  ⟨own_block h.1 (fun g hg => hb.block g (own_size h.1 hg)), fun y hy => ⟨(h.2 y hy).1.on (B5.of_below hb), (h.2 y hy).2.1.on (B5.of_below hb), metaKind_ok.below (h.2 y hy).2.2 hb⟩⟩
theorem FirmD.five {B : Nat} {w : World} {x : VV} (h : FirmD B w x) {E T : Nat} {cs : Array Value} {fr : Nat × Nat} (hE : w.heap[E]? = some (.cells cs T fr)) (h1 : T ≠ 53) (h2 : T ≠ 5) (a0 a1 a2 a3 a4 : Value) : FirmD B (((((w.setCell ⟨E, 0, none⟩ a0).setCell ⟨E, 1, none⟩ a1).setCell ⟨E, 2, none⟩ a2).setCell ⟨E, 3, none⟩ a3).setCell ⟨E, 4, none⟩ a4) x :=
  have tb := B5.five hE h2 a0 a1 a2 a3 a4
  ⟨own_fiveX h.1 hE h1 a0 a1 a2 a3 a4, fun y hy => ⟨(h.2 y hy).1.on tb, (h.2 y hy).2.1.on tb, src_on (h.2 y hy).2.2.1 (h.2 y hy).1 tb, src_on (h.2 y hy).2.2.2 (h.2 y hy).2.1 tb⟩⟩
set_option maxHeartbeats 3000000 in
set_option maxRecDepth 100000 in
theorem rdecode_any (ao : Option Addr) (c : Nat) (l : List UInt8) (w : World) (hs : Src w ao l.length c l) (hlt : ∀ ad, ao = some ad → ad.block < w.heap.size) (hn : l.length ≤ 140737488355328) :
    Calls Tryz.prog 6 #[.slice ao l.length c] w fun e w' => DecA l w e w' := by
  obtain ⟨i0, hi0, hz0, hz1, hz2⟩ := info_partsM infoNote
  obtain ⟨M0, hM0⟩ : ∃ M0, l.length = M0 := ⟨_, rfl⟩
  obtain ⟨W1, hW1⟩ : ∃ W1, w.alloc (.cells #[.int .i64 0, .int .i64 0, .int .i64 0, .int .i64 0, .slice none 0 0] 32) = W1 := ⟨_, rfl⟩
  obtain ⟨W2, hW2⟩ : ∃ W2, W1.alloc (.cells #[.slice ao M0 c, .bool false] 51) = W2 := ⟨_, rfl⟩
  obtain ⟨W3, hW3⟩ : ∃ W3, W2.alloc (.cells #[.int .i64 0, .int .i64 0, .int .i64 0, .int .i64 0, .slice none 0 0] 32) = W3 := ⟨_, rfl⟩
  have z1 : Hid (W1.heap.size = w.heap.size + 1) := by rw [← hW1]; exact World.size_alloc _ _
  have z2 : Hid (W2.heap.size = w.heap.size + 2) := by have := z1.out; show _ = _; rw [← hW2, World.size_alloc]; omega
  have b1 : Hid (Below w.heap.size w W1) := by rw [← hW1]; exact (Below.refl _ _).alloc (Nat.le_refl _) _
  have b2 : Hid (Below W1.heap.size W1 W2) := by rw [← hW2]; exact (Below.refl _ _).alloc (Nat.le_refl _) _
  have b3 : Hid (Below W2.heap.size W2 W3) := by rw [← hW3]; exact (Below.refl _ _).alloc (Nat.le_refl _) _
  have g1 : Hid (W1.heap[w.heap.size]? = some (.cells #[.int .i64 0, .int .i64 0, .int .i64 0, .int .i64 0, .slice none 0 0] 32)) := by rw [← hW1]; exact heap_alloc_new w _
  have g2 : Hid (W2.heap[w.heap.size]? = some (.cells #[.int .i64 0, .int .i64 0, .int .i64 0, .int .i64 0, .slice none 0 0] 32)) := (b2.out.block _ (by rw [z1.out]; omega)).trans g1.out
  have R2 : Hid (Rx w.heap.size W2 W1.heap.size ao l.length c l false) := ⟨by rw [← hW2, hM0]; exact heap_alloc_new W1 _, (hs.below b1.out).below b2.out, .inl hlt, by have := z1.out; omega⟩
  have D3 : Hid (Dq w W1.heap.size W2.heap.size #[.int .i64 0, .int .i64 0, .int .i64 0, .int .i64 0, .slice none 0 0] l false W3) := ⟨(b1.out.trans (b2.out.mono b1.out.size)).trans (b3.out.mono (by have := z2.out; omega)), (b3.out.block _ (by rw [z2.out]; omega)).trans g2.out, ⟨ao, c, R2.out.below b3.out⟩, by rw [← hW3]; exact heap_alloc_new W2 _, by have h1 := z1.out; have h2 := z2.out; omega⟩
  obtain ⟨rd, hrd⟩ : ∃ rd, W1.heap.size = rd := ⟨_, rfl⟩
  obtain ⟨vb, hvb⟩ : ∃ vb, W2.heap.size = vb := ⟨_, rfl⟩
  rw [hrd, hvb] at D3
  have HLN := keep hn
  have HS := keep hs
  obtain ⟨l1, e1⟩ : ∃ x, rOf l = x := ⟨_, rfl⟩
  obtain ⟨G, f1⟩ : ∃ x, nOf l = x := ⟨_, rfl⟩
  obtain ⟨q1, d1⟩ : ∃ x, (false || Ed.ddB l) = x := ⟨_, rfl⟩
  obtain ⟨l2, e2⟩ : ∃ x, rOf l1 = x := ⟨_, rfl⟩
  obtain ⟨N, f2⟩ : ∃ x, nOf l1 = x := ⟨_, rfl⟩
  obtain ⟨q2, d2⟩ : ∃ x, (q1 || Ed.ddB l1) = x := ⟨_, rfl⟩
  obtain ⟨l3, e3⟩ : ∃ x, rOf l2 = x := ⟨_, rfl⟩
  obtain ⟨Lg, f3⟩ : ∃ x, nOf l2 = x := ⟨_, rfl⟩
  obtain ⟨q3, d3⟩ : ∃ x, (q2 || Ed.ddB l2) = x := ⟨_, rfl⟩
  obtain ⟨l4, e4⟩ : ∃ x, rOf l3 = x := ⟨_, rfl⟩
  obtain ⟨Sq, f4⟩ : ∃ x, nOf l3 = x := ⟨_, rfl⟩
  obtain ⟨q4, d4⟩ : ∃ x, (q3 || Ed.ddB l3) = x := ⟨_, rfl⟩
  obtain ⟨l5, e5⟩ : ∃ x, rOf l4 = x := ⟨_, rfl⟩
  obtain ⟨Kn, f5⟩ : ∃ x, nOf l4 = x := ⟨_, rfl⟩
  obtain ⟨q5, d5⟩ : ∃ x, (q4 || Ed.ddB l4) = x := ⟨_, rfl⟩
  have HQ5 : Hid (Ed.ddN5 l = q5) := by
    show _ = _
    unfold Ed.ddN5
    rw [← d5, ← d4, ← d3, ← d2, ← d1, Bool.false_or, e1, e2, e3, e4]
  have HV : Hid (Ed.ddT l = Ed.ddMs (min Kn 4096) l5 q5 ∧ Ed.ddV l = ⟨(G : Int), (N : Int), (Lg : Int), (Sq : Int), (Ed.ddT l).1⟩) := by
    refine ⟨?_, ?_⟩
    · unfold Ed.ddT
      rw [HQ5.out, e1, e2, e3, e4, e5, f5]
    · unfold Ed.ddV
      rw [f1, e1, f2, e2, f3, e3, f4]
  have S1 : Hid (l1.length ≤ l.length) := by rw [← e1]; exact rOf_len l
  have S2 : Hid (l2.length ≤ l.length) := by rw [← e2]; exact Nat.le_trans (rOf_len l1) S1.out
  have S3 : Hid (l3.length ≤ l.length) := by rw [← e3]; exact Nat.le_trans (rOf_len l2) S2.out
  have S4 : Hid (l4.length ≤ l.length) := by rw [← e4]; exact Nat.le_trans (rOf_len l3) S3.out
  have S5 : Hid (l5.length ≤ l.length) := by rw [← e5]; exact Nat.le_trans (rOf_len l4) S4.out
  have N1 := keep (fun (w' : World) (a : Option Addr) (cc : Nat) (h : Rx w.heap.size w' rd a l.length cc l false) => numX f1 e1 d1 HLN.out h)
  have N2 := keep (fun (w' : World) (a : Option Addr) (cc : Nat) (h : Rx w.heap.size w' rd a l1.length cc l1 q1) => numX f2 e2 d2 (Nat.le_trans S1.out HLN.out) h)
  have N3 := keep (fun (w' : World) (a : Option Addr) (cc : Nat) (h : Rx w.heap.size w' rd a l2.length cc l2 q2) => numX f3 e3 d3 (Nat.le_trans S2.out HLN.out) h)
  have N4 := keep (fun (w' : World) (a : Option Addr) (cc : Nat) (h : Rx w.heap.size w' rd a l3.length cc l3 q3) => numX f4 e4 d4 (Nat.le_trans S3.out HLN.out) h)
  have N5 := keep (fun (w' : World) (a : Option Addr) (cc : Nat) (h : Rx w.heap.size w' rd a l4.length cc l4 q4) => numX f5 e5 d5 (Nat.le_trans S4.out HLN.out) h)
  have HM0 := keep hM0
  rw [hM0]
  have HE := keep hrd
  have HF := keep hvb
  clear hs hlt hn e1 e2 e3 e4 e5 f1 f2 f3 f4 f5 d1 d2 d3 d4 d5 hM0 R2 g1 g2 b1 b2 b3
  go_enter Tryz.func6, Tryz.ntmps6
  go_wp2_with fail
  obtain ⟨a3, c3, r3⟩ := D3.out.rdr
  refine (N1.out W3 a3 c3 r3).mono ?_
  rintro e w4 ⟨rfl, hk, hr⟩
  have E4 := keep (D3.out.num hk hr)
  have ce : w4.cell? ⟨vb, 0, none⟩ = some (.int .i64 0) := E4.out.cell 0
  have fe := E4.out.frozen 0
  have D4 := keep (E4.out.put 0 (.int .i64 (G : Int)))
  simp only [List.setIfInBounds_toArray, List.set_cons_zero] at D4
  clear hk hr hW1 hW2 hW3 r3
  go_wp2_with fail
  clear ce fe
  obtain ⟨W4, hW4⟩ : ∃ W4, w4.setCell ⟨vb, 0, none⟩ (.int .i64 (G : Int)) = W4 := ⟨_, rfl⟩
  rw [hW4] at D4 ⊢
  clear hW4
  obtain ⟨aa, cc, rr⟩ := D4.out.rdr
  refine (N2.out _ aa cc rr).mono ?_
  clear rr
  rintro e w5 ⟨rfl, hk, hr⟩
  have E5 := keep (D4.out.num hk hr)
  have ce : w5.cell? ⟨vb, 1, none⟩ = some (.int .i64 0) := E5.out.cell 1
  have fe := E5.out.frozen 1
  have D5 := keep (E5.out.put 1 (.int .i64 (N : Int)))
  simp only [List.setIfInBounds_toArray, List.set_cons_zero, List.set_cons_succ] at D5
  clear hk hr
  go_wp2_with fail
  clear ce fe
  obtain ⟨W5, hW5⟩ : ∃ W5, w5.setCell ⟨vb, 1, none⟩ (.int .i64 (N : Int)) = W5 := ⟨_, rfl⟩
  rw [hW5] at D5 ⊢
  clear hW5
  obtain ⟨aa, cc, rr⟩ := D5.out.rdr
  refine (N3.out _ aa cc rr).mono ?_
  clear rr
  rintro e w6 ⟨rfl, hk, hr⟩
  have E6 := keep (D5.out.num hk hr)
  have ce : w6.cell? ⟨vb, 2, none⟩ = some (.int .i64 0) := E6.out.cell 2
  have fe := E6.out.frozen 2
  have D6 := keep (E6.out.put 2 (.int .i64 (Lg : Int)))
  simp only [List.setIfInBounds_toArray, List.set_cons_zero, List.set_cons_succ] at D6
  clear hk hr
  go_wp2_with fail
  clear ce fe
  obtain ⟨W6, hW6⟩ : ∃ W6, w6.setCell ⟨vb, 2, none⟩ (.int .i64 (Lg : Int)) = W6 := ⟨_, rfl⟩
  rw [hW6] at D6 ⊢
  clear hW6
  obtain ⟨aa, cc, rr⟩ := D6.out.rdr
  refine (N4.out _ aa cc rr).mono ?_
  clear rr
  rintro e w7 ⟨rfl, hk, hr⟩
  have E7 := keep (D6.out.num hk hr)
  have ce : w7.cell? ⟨vb, 3, none⟩ = some (.int .i64 0) := E7.out.cell 3
  have fe := E7.out.frozen 3
  have D7 := keep (E7.out.put 3 (.int .i64 (Sq : Int)))
  simp only [List.setIfInBounds_toArray, List.set_cons_zero, List.set_cons_succ] at D7
  clear hk hr
  go_wp2_with fail
  clear ce fe
  obtain ⟨W7, hW7⟩ : ∃ W7, w7.setCell ⟨vb, 3, none⟩ (.int .i64 (Sq : Int)) = W7 := ⟨_, rfl⟩
  rw [hW7] at D7 ⊢
  clear hW7
  obtain ⟨aa, cc, rr⟩ := D7.out.rdr
  refine (N5.out _ aa cc rr).mono ?_
  clear rr
  rintro e w8 ⟨rfl, hk, hr⟩
  have E8 := keep (D7.out.num hk hr)
  clear hk hr N1 N2 N3 N4 N5 D3 D4 D5 D6 D7 E4 E5 E6 E7
  obtain ⟨KK, hK⟩ : ∃ KK, min Kn 4096 = KK := ⟨_, rfl⟩
  rw [hK] at HV
  have hK4 : KK ≤ 4096 := by omega
  have I8 : Hid (DqI w rd vb G N Lg Sq KK M0 l5 q5 [] (.slice none 0 0) l5 q5 w8) := ⟨E8.out, World.ownsRow_nil _ _ _ _, fun y hy => (by cases hy), rfl, Nat.zero_le _, by rw [← HM0.out]; exact S5.out⟩
  clear E8 S1 S2 S3 S4 S5 HQ5
  go_wp2
  go_loopw [7] (fun i wr => ∃ (ys : List MV) (v : Value) (L : List UInt8) (bad : Bool), i = .int .i64 ((ys.length : Nat) : Int) ∧ Hid (DqI w rd vb G N Lg Sq KK M0 l5 q5 ys v L bad wr)) (fun i _ => KK - (intOf i).toNat)
  case atStart => exact ⟨[], _, l5, q5, rfl, I8.out⟩
  case round =>
    obtain ⟨ys, v, L, bad, rfl, hI⟩ := hrel
    clear I8
    obtain ⟨q, cc, hvq⟩ := own_sliceM hI.out.row
    subst hvq
    obtain ⟨YN, hYN⟩ : ∃ YN, ys.length = YN := ⟨_, rfl⟩
    rw [hYN]
    have HYN := keep hYN
    obtain ⟨ar, cr, hr⟩ := hI.out.dq.rdr
    have crd := hr.c1
    have hyK : YN ≤ KK := by rw [← hYN]; exact hI.out.len
    clear hr hYN
    by_cases hc : YN < KK ∧ bad = false
    · obtain ⟨hc1, rfl⟩ := hc
      have d1 : (YN : Int) < (Kn : Int) := by omega
      have d2 : (YN : Int) < 4096 := by omega
      obtain ⟨m1, e1⟩ : ∃ x, rOf L = x := ⟨_, rfl⟩
      obtain ⟨n1, f1⟩ : ∃ x, nOf L = x := ⟨_, rfl⟩
      obtain ⟨p1, d3⟩ : ∃ x, (false || Ed.ddB L) = x := ⟨_, rfl⟩
      obtain ⟨m2, e2⟩ : ∃ x, rOf m1 = x := ⟨_, rfl⟩
      obtain ⟨n2, f2⟩ : ∃ x, nOf m1 = x := ⟨_, rfl⟩
      obtain ⟨p2, d4⟩ : ∃ x, (p1 || Ed.ddB m1) = x := ⟨_, rfl⟩
      obtain ⟨m3, e3⟩ : ∃ x, rOf m2 = x := ⟨_, rfl⟩
      obtain ⟨n3, f3⟩ : ∃ x, nOf m2 = x := ⟨_, rfl⟩
      obtain ⟨p3, d5⟩ : ∃ x, (p2 || Ed.ddB m2) = x := ⟨_, rfl⟩
      obtain ⟨m4, e4⟩ : ∃ x, Ed.tR m3 64 = x := ⟨_, rfl⟩
      obtain ⟨t4, f4⟩ : ∃ x, Ed.tS m3 64 = x := ⟨_, rfl⟩
      obtain ⟨p4, d6⟩ : ∃ x, (p3 || Ed.ddC m3) = x := ⟨_, rfl⟩
      obtain ⟨m5, e5⟩ : ∃ x, Ed.tR m4 64 = x := ⟨_, rfl⟩
      obtain ⟨t5, f5⟩ : ∃ x, Ed.tS m4 64 = x := ⟨_, rfl⟩
      obtain ⟨p5, d7⟩ : ∃ x, (p4 || Ed.ddC m4) = x := ⟨_, rfl⟩
      have ML : Hid (Ed.ddML L = m5) := by show _ = _; unfold Ed.ddML; rw [e1, e2, e3, e4, e5]
      have MB : Hid (Ed.ddMB L = p5) := by show _ = _; unfold Ed.ddMB; rw [← d7, ← d6, ← d5, ← d4, ← d3, Bool.false_or, e1, e2, e3, e4]
      have MM : Hid (Ed.ddM L = ⟨(n1 : Int), (n2 : Int), (n3 : Int), t4, t5⟩) := by show _ = _; unfold Ed.ddM; rw [f1, e1, f2, e2, f3, e3, f4, e4, f5]
      have s0 : Hid (L.length ≤ 140737488355328) := Nat.le_trans hI.out.short (by rw [← HM0.out]; exact HLN.out)
      have s1 : Hid (m1.length ≤ 140737488355328) := by rw [← e1]; exact Nat.le_trans (rOf_len L) s0.out
      have s2 : Hid (m2.length ≤ 140737488355328) := by rw [← e2]; exact Nat.le_trans (rOf_len m1) s1.out
      have s3 : Hid (m3.length ≤ 140737488355328) := by rw [← e3]; exact Nat.le_trans (rOf_len m2) s2.out
      have s4 : Hid (m4.length ≤ 140737488355328) := by rw [← e4]; exact Nat.le_trans (Ed.tR_len m3 64) s3.out
      have N1 := keep (fun (w' : World) (a : Option Addr) (cc : Nat) (h : Rx w.heap.size w' rd a L.length cc L false) => numX f1 e1 d3 s0.out h)
      have N2 := keep (fun (w' : World) (a : Option Addr) (cc : Nat) (h : Rx w.heap.size w' rd a m1.length cc m1 p1) => numX f2 e2 d4 s1.out h)
      have N3 := keep (fun (w' : World) (a : Option Addr) (cc : Nat) (h : Rx w.heap.size w' rd a m2.length cc m2 p2) => numX f3 e3 d5 s2.out h)
      have N4 := keep (fun (w' : World) (a : Option Addr) (cc : Nat) (h : Rx w.heap.size w' rd a m3.length cc m3 p3) => txtX f4 e4 d6 s3.out h)
      have N5 := keep (fun (w' : World) (a : Option Addr) (cc : Nat) (h : Rx w.heap.size w' rd a m4.length cc m4 p4) => txtX f5 e5 d7 s4.out h)
      have HRW : Hid (wr.ownsRow w.heap.size 53 5 (.slice q YN cc) YN (rv metaKind ys)) := by have := hI.out.row; rw [HYN.out] at this; exact this
      have CV : Hid (∀ w', Kept (AtB rd) wr w' → w'.cell? ⟨vb, 4, none⟩ = some (.slice q YN cc)) := fun w' hk => by
        have h2 := (hk.block vb (Array.getElem?_eq_some_iff.1 hI.out.dq.ver).1 (fun e => hI.out.dq.ne e)).trans hI.out.dq.ver
        rw [cell_of_row _ _ _ _ _ _ h2, HYN.out]; rfl
      have NR : Hid (∀ g, (Value.slice q YN cc).ownBlock = some g → g ≠ rd) := fun g hg e => by
        obtain ⟨cur, h1⟩ := own_tag HRW.out hg
        obtain ⟨a, c, hr⟩ := hI.out.dq.rdr
        rw [e, hr.row] at h1
        cases h1
      clear e1 e2 e3 e4 e5 f1 f2 f3 f4 f5 d3 d4 d5 d6 d7
      obtain ⟨W9, hW9⟩ : ∃ W9, wr.alloc (.cells #[.int .i64 0, .int .i64 0, .int .i64 0, .slice none 0 0, .slice none 0 0] 53) = W9 := ⟨_, rfl⟩
      have D9 : Hid (DqR w wr rd wr.heap.size #[.int .i64 0, .int .i64 0, .int .i64 0, .slice none 0 0, .slice none 0 0] L false W9) := by
        obtain ⟨a, c, hr⟩ := hI.out.dq.rdr
        rw [← hW9]
        exact ⟨(Kept.refl _ _).alloc _, ⟨a, c, hr.below ((Below.refl _ _).alloc (Nat.le_refl _) _)⟩, heap_alloc_new wr _, Nat.le_refl _, hI.out.dq.bel.size⟩
      obtain ⟨mb, hmb⟩ : ∃ mb, wr.heap.size = mb := ⟨_, rfl⟩
      rw [hmb] at D9
      go_wp2_with fail
      obtain ⟨aa, c9, rr⟩ := D9.out.rdr
      refine (N1.out W9 aa c9 rr).mono ?_
      clear rr hW9 hmb crd
      rintro e w10 ⟨rfl, hk, hr⟩
      have E10 := keep (D9.out.num hk hr)
      have ce : w10.cell? ⟨mb, 0, none⟩ = some (.int .i64 0) := E10.out.cell 0
      have fe := E10.out.frozen 0
      have D10 := keep (E10.out.put 0 (.int .i64 (n1 : Int)))
      simp only [List.setIfInBounds_toArray, List.set_cons_zero] at D10
      clear hk hr
      go_wp2_with fail
      clear ce fe
      obtain ⟨W10, hW10⟩ : ∃ W10, w10.setCell ⟨mb, 0, none⟩ (.int .i64 (n1 : Int)) = W10 := ⟨_, rfl⟩
      rw [hW10] at D10 ⊢
      clear hW10
      obtain ⟨aa, c9, rr⟩ := D10.out.rdr
      refine (N2.out _ aa c9 rr).mono ?_
      clear rr
      rintro e w11 ⟨rfl, hk, hr⟩
      have E11 := keep (D10.out.num hk hr)
      have ce : w11.cell? ⟨mb, 1, none⟩ = some (.int .i64 0) := E11.out.cell 1
      have fe := E11.out.frozen 1
      have D11 := keep (E11.out.put 1 (.int .i64 (n2 : Int)))
      simp only [List.setIfInBounds_toArray, List.set_cons_zero, List.set_cons_succ] at D11
      clear hk hr
      go_wp2_with fail
      clear ce fe
      obtain ⟨W11, hW11⟩ : ∃ W11, w11.setCell ⟨mb, 1, none⟩ (.int .i64 (n2 : Int)) = W11 := ⟨_, rfl⟩
      rw [hW11] at D11 ⊢
      clear hW11
      obtain ⟨aa, c9, rr⟩ := D11.out.rdr
      refine (N3.out _ aa c9 rr).mono ?_
      clear rr
      rintro e w12 ⟨rfl, hk, hr⟩
      have E12 := keep (D11.out.num hk hr)
      have ce : w12.cell? ⟨mb, 2, none⟩ = some (.int .i64 0) := E12.out.cell 2
      have fe := E12.out.frozen 2
      have D12 := keep (E12.out.put 2 (.int .i64 (n3 : Int)))
      simp only [List.setIfInBounds_toArray, List.set_cons_zero, List.set_cons_succ] at D12
      clear hk hr
      go_wp2_with fail
      clear ce fe
      obtain ⟨W12, hW12⟩ : ∃ W12, w12.setCell ⟨mb, 2, none⟩ (.int .i64 (n3 : Int)) = W12 := ⟨_, rfl⟩
      rw [hW12] at D12 ⊢
      clear hW12
      obtain ⟨aa, c9, rr⟩ := D12.out.rdr
      refine (N4.out _ aa c9 rr).mono ?_
      clear rr
      rintro e w13 ⟨g4, k4, rfl, h5, hsr, hk, hr⟩
      have E13 := keep (D12.out.num hk hr)
      have ce : w13.cell? ⟨mb, 3, none⟩ = some (.slice none 0 0) := E13.out.cell 3
      have fe := E13.out.frozen 3
      have D13 := keep (E13.out.put 3 (.slice (some ⟨g4, 0, none⟩) t4.length k4))
      simp only [List.setIfInBounds_toArray, List.set_cons_zero, List.set_cons_succ] at D13
      have b5p := E13.out.b5put 3 (.slice (some ⟨g4, 0, none⟩) t4.length k4)
      have TA := keep (⟨h5.on b5p, src_on hsr h5 b5p⟩ : In5 _ _ ∧ Src _ _ _ _ _)
      clear hk hr h5 hsr b5p
      go_wp2_with fail
      clear ce fe
      obtain ⟨W13, hW13⟩ : ∃ W13, w13.setCell ⟨mb, 3, none⟩ (.slice (some ⟨g4, 0, none⟩) t4.length k4) = W13 := ⟨_, rfl⟩
      rw [hW13] at D13 TA ⊢
      clear hW13
      obtain ⟨aa, c9, rr⟩ := D13.out.rdr
      refine (N5.out _ aa c9 rr).mono ?_
      clear rr
      rintro e w14 ⟨g5, k5, rfl, h5, hsr, hk, hr⟩
      have E14 := keep (D13.out.num hk hr)
      have TT := keep (⟨TA.out.1.on (D13.out.b5num hk), src_on TA.out.2 TA.out.1 (D13.out.b5num hk)⟩ : In5 w14 (some ⟨g4, 0, none⟩) ∧ Src w14 (some ⟨g4, 0, none⟩) t4.length k4 t4)
      have ce : w14.cell? ⟨mb, 4, none⟩ = some (.slice none 0 0) := E14.out.cell 4
      have fe := E14.out.frozen 4
      have D14 := keep (E14.out.put 4 (.slice (some ⟨g5, 0, none⟩) t5.length k5))
      simp only [List.setIfInBounds_toArray, List.set_cons_zero, List.set_cons_succ] at D14
      have b5p := E14.out.b5put 4 (.slice (some ⟨g5, 0, none⟩) t5.length k5)
      have TB := keep (⟨h5.on b5p, src_on hsr h5 b5p⟩ : In5 _ _ ∧ Src _ _ _ _ _)
      have TC := keep (⟨TT.out.1.on b5p, src_on TT.out.2 TT.out.1 b5p⟩ : In5 _ _ ∧ Src _ _ _ _ _)
      clear hk hr h5 hsr b5p
      obtain ⟨W14, hW14⟩ : ∃ W14, w14.setCell ⟨mb, 4, none⟩ (.slice (some ⟨g5, 0, none⟩) t5.length k5) = W14 := ⟨_, rfl⟩
      rw [hW14] at D14 TB TC
      have y0 : W14.cell? ⟨mb, 0, none⟩ = some (.int .i64 (n1 : Int)) := D14.out.cell 0
      have y1 : W14.cell? ⟨mb, 1, none⟩ = some (.int .i64 (n2 : Int)) := D14.out.cell 1
      have y2 : W14.cell? ⟨mb, 2, none⟩ = some (.int .i64 (n3 : Int)) := D14.out.cell 2
      have y3 : W14.cell? ⟨mb, 3, none⟩ = some (.slice (some ⟨g4, 0, none⟩) t4.length k4) := D14.out.cell 3
      have y4 : W14.cell? ⟨mb, 4, none⟩ = some (.slice (some ⟨g5, 0, none⟩) t5.length k5) := D14.out.cell 4
      have cv := CV.out W14 D14.out.kept
      have rc := keep (rec_cells (k := metaKind) W14 53 (⟨some ⟨g4, 0, none⟩, k4, some ⟨g5, 0, none⟩, k5, ⟨(n1 : Int), (n2 : Int), (n3 : Int), t4, t5⟩⟩ : MV))
      have o14 : Hid ((W14.alloc (.cells #[.int .i64 (n1 : Int), .int .i64 (n2 : Int), .int .i64 (n3 : Int), .slice (some ⟨g4, 0, none⟩) t4.length k4, .slice (some ⟨g5, 0, none⟩) t5.length k5] 53)).ownsRow w.heap.size 53 5 (.slice q YN cc) YN (rv metaKind ys)) := (own_block (w' := W14) HRW.out (fun g hg => D14.out.kept.block g (own_size HRW.out hg) (fun e => NR.out g hg e))).alloc _
      have lw : Hid (w.heap.size ≤ W14.heap.size) := Nat.le_trans hI.out.dq.bel.size D14.out.kept.size
      have HY2 : Hid (ys.length < KK) := by rw [HYN.out]; exact hc1
      rw [← ML.out, ← MB.out] at D14
      have NXT := keep (fun (v7 : Value) (w7 : World) ho hg => DqI.next (y := (⟨some ⟨g4, 0, none⟩, k4, some ⟨g5, 0, none⟩, k5, ⟨(n1 : Int), (n2 : Int), (n3 : Int), t4, t5⟩⟩ : MV)) (v7 := v7) (w7 := w7) hI.out HY2.out D14.out ⟨TC.out.1, TB.out.1, TC.out.2, TB.out.2⟩ MM.out.symm (by rw [HYN.out]; exact ho) (by rw [HYN.out]; exact hg))
      clear N1 N2 N3 N4 N5 D9 D10 D11 D12 D13 E10 E11 E12 E13 E14 TA TT
      go_wp2_with (first
        | (at_builtin; go_loud (refine wpList_append_rec metaKind_ok rfl _ _ 30 53 rfl w.heap.size i0 _ 72 Tryz.underlying30 hi0 hz0 hz1 hz2 rfl (.slice q YN cc) YN ys rfl o14.out _ 1 (⟨some ⟨g4, 0, none⟩, k4, some ⟨g5, 0, none⟩, k5, ⟨(n1 : Int), (n2 : Int), (n3 : Int), t4, t5⟩⟩ : MV) rfl rc.out (by unfold maxLen; omega) (by omega) (le_alloc lw.out _) ?_); intro v7 w7 ho7 hg7; obtain ⟨q7, k7, hv7⟩ := own_sliceM ho7; subst hv7; have NX := keep (NXT.out _ w7 ho7 hg7); have c7 : w7.cell? ⟨vb, 4, none⟩ = some (.slice q YN cc) := (by rw [cell_of_row _ _ _ _ _ _ NX.out.1, HYN.out]; rfl); have f7 : w7.frozen? ⟨vb, 4, none⟩ = false := (by simp [World.frozen?, NX.out.1]); clear ho7 hg7))
      go_roundw
      case rel => exact ⟨ys ++ [(⟨some ⟨g4, 0, none⟩, k4, some ⟨g5, 0, none⟩, k5, ⟨(n1 : Int), (n2 : Int), (n3 : Int), t4, t5⟩⟩ : MV)], _, Ed.ddML L, Ed.ddMB L, by rw [List.length_append, HYN.out]; go_num, NX.out.2⟩
      case measure => simp [intOf]; omega
    · rw [HYN.out] at hI
      have hE : KK - YN = 0 ∨ bad = true := by
        cases bad with
        | true => exact .inr rfl
        | false => exact .inl (by have : ¬ YN < KK := fun h => hc ⟨h, rfl⟩; omega)
      have PL : Hid (Ed.ddT l = (ys.map (·.m), bad)) := by
        have h1 := hI.out.plain
        rw [HYN.out, Ed.ddMs_end hE, List.append_nil] at h1
        exact HV.out.1.trans h1
      have VL : Hid (Ed.ddV l = ⟨(G : Int), (N : Int), (Lg : Int), (Sq : Int), ys.map (·.m)⟩) := by have := HV.out.2; rw [PL.out] at this; exact this
      clear hE
      cases bad with
      | true =>
        have NV : Ed.isVer l = false := by rw [(Ed.dd_is l).1, PL.out]; rfl
        have NO := keep (fun w' => DecA.no (w := w) (w' := w') NV)
        have GZ := keep hI.out.dq.res
        have BZ := keep hI.out.dq.bel
        clear hI NV hc
        by_cases h1 : (YN : Int) < (Kn : Int)
        · by_cases h2 : (YN : Int) < 4096
          · have z0 : wr.cell? ⟨w.heap.size, 0, none⟩ = some (.int .i64 0) := cell_of_row _ _ _ _ _ _ GZ.out
            have f0 : wr.frozen? ⟨w.heap.size, 0, none⟩ = false := by simp [World.frozen?, GZ.out]
            have z1 : wr.cell? ⟨w.heap.size, 1, none⟩ = some (.int .i64 0) := cell_of_row _ _ _ _ _ _ GZ.out
            have f1 : wr.frozen? ⟨w.heap.size, 1, none⟩ = false := by simp [World.frozen?, GZ.out]
            have z2 : wr.cell? ⟨w.heap.size, 2, none⟩ = some (.int .i64 0) := cell_of_row _ _ _ _ _ _ GZ.out
            have f2 : wr.frozen? ⟨w.heap.size, 2, none⟩ = false := by simp [World.frozen?, GZ.out]
            have z3 : wr.cell? ⟨w.heap.size, 3, none⟩ = some (.int .i64 0) := cell_of_row _ _ _ _ _ _ GZ.out
            have f3 : wr.frozen? ⟨w.heap.size, 3, none⟩ = false := by simp [World.frozen?, GZ.out]
            have z4 : wr.cell? ⟨w.heap.size, 4, none⟩ = some (.slice none 0 0) := cell_of_row _ _ _ _ _ _ GZ.out
            have f4 : wr.frozen? ⟨w.heap.size, 4, none⟩ = false := by simp [World.frozen?, GZ.out]
            go_wp2
            refine ⟨rfl, .tuple #[.agg #[.int .i64 0, .int .i64 0, .int .i64 0, .int .i64 0, .slice none 0 0], .int .i64 2], ?_, ?_⟩
            · have r0 : (wr.setCell ⟨w.heap.size, 0, none⟩ (.int .i64 0)).cell? ⟨w.heap.size, 0, none⟩ = some (.int .i64 0) := World.cell?_setCell_same' _ _ _ (by simp [go_sem, z0])
              have r1 : ((wr.setCell ⟨w.heap.size, 0, none⟩ (.int .i64 0)).setCell ⟨w.heap.size, 1, none⟩ (.int .i64 0)).cell? ⟨w.heap.size, 1, none⟩ = some (.int .i64 0) := World.cell?_setCell_same' _ _ _ (by simp [go_sem, z1])
              have r2 : (((wr.setCell ⟨w.heap.size, 0, none⟩ (.int .i64 0)).setCell ⟨w.heap.size, 1, none⟩ (.int .i64 0)).setCell ⟨w.heap.size, 2, none⟩ (.int .i64 0)).cell? ⟨w.heap.size, 2, none⟩ = some (.int .i64 0) := World.cell?_setCell_same' _ _ _ (by simp [go_sem, z2])
              have r3 : ((((wr.setCell ⟨w.heap.size, 0, none⟩ (.int .i64 0)).setCell ⟨w.heap.size, 1, none⟩ (.int .i64 0)).setCell ⟨w.heap.size, 2, none⟩ (.int .i64 0)).setCell ⟨w.heap.size, 3, none⟩ (.int .i64 0)).cell? ⟨w.heap.size, 3, none⟩ = some (.int .i64 0) := World.cell?_setCell_same' _ _ _ (by simp [go_sem, z3])
              have r4 : (((((wr.setCell ⟨w.heap.size, 0, none⟩ (.int .i64 0)).setCell ⟨w.heap.size, 1, none⟩ (.int .i64 0)).setCell ⟨w.heap.size, 2, none⟩ (.int .i64 0)).setCell ⟨w.heap.size, 3, none⟩ (.int .i64 0)).setCell ⟨w.heap.size, 4, none⟩ (.slice none 0 0)).cell? ⟨w.heap.size, 4, none⟩ = some (.slice none 0 0) := World.cell?_setCell_same' _ _ _ (by simp [go_sem, z4])
              simp [results, Tryz.f6, go_sem, loadCells, loadCellsFrom, r0, r1, r2, r3, r4]
            · exact NO.out _ (((((BZ.out.setCell (p := ⟨w.heap.size, 0, none⟩) (Nat.le_refl _) _).setCell (p := ⟨w.heap.size, 1, none⟩) (Nat.le_refl _) _).setCell (p := ⟨w.heap.size, 2, none⟩) (Nat.le_refl _) _).setCell (p := ⟨w.heap.size, 3, none⟩) (Nat.le_refl _) _).setCell (p := ⟨w.heap.size, 4, none⟩) (Nat.le_refl _) _)
          · have z0 : wr.cell? ⟨w.heap.size, 0, none⟩ = some (.int .i64 0) := cell_of_row _ _ _ _ _ _ GZ.out
            have f0 : wr.frozen? ⟨w.heap.size, 0, none⟩ = false := by simp [World.frozen?, GZ.out]
            have z1 : wr.cell? ⟨w.heap.size, 1, none⟩ = some (.int .i64 0) := cell_of_row _ _ _ _ _ _ GZ.out
            have f1 : wr.frozen? ⟨w.heap.size, 1, none⟩ = false := by simp [World.frozen?, GZ.out]
            have z2 : wr.cell? ⟨w.heap.size, 2, none⟩ = some (.int .i64 0) := cell_of_row _ _ _ _ _ _ GZ.out
            have f2 : wr.frozen? ⟨w.heap.size, 2, none⟩ = false := by simp [World.frozen?, GZ.out]
            have z3 : wr.cell? ⟨w.heap.size, 3, none⟩ = some (.int .i64 0) := cell_of_row _ _ _ _ _ _ GZ.out
            have f3 : wr.frozen? ⟨w.heap.size, 3, none⟩ = false := by simp [World.frozen?, GZ.out]
            have z4 : wr.cell? ⟨w.heap.size, 4, none⟩ = some (.slice none 0 0) := cell_of_row _ _ _ _ _ _ GZ.out
            have f4 : wr.frozen? ⟨w.heap.size, 4, none⟩ = false := by simp [World.frozen?, GZ.out]
            go_wp2
            refine ⟨rfl, .tuple #[.agg #[.int .i64 0, .int .i64 0, .int .i64 0, .int .i64 0, .slice none 0 0], .int .i64 2], ?_, ?_⟩
            · have r0 : (wr.setCell ⟨w.heap.size, 0, none⟩ (.int .i64 0)).cell? ⟨w.heap.size, 0, none⟩ = some (.int .i64 0) := World.cell?_setCell_same' _ _ _ (by simp [go_sem, z0])
              have r1 : ((wr.setCell ⟨w.heap.size, 0, none⟩ (.int .i64 0)).setCell ⟨w.heap.size, 1, none⟩ (.int .i64 0)).cell? ⟨w.heap.size, 1, none⟩ = some (.int .i64 0) := World.cell?_setCell_same' _ _ _ (by simp [go_sem, z1])
              have r2 : (((wr.setCell ⟨w.heap.size, 0, none⟩ (.int .i64 0)).setCell ⟨w.heap.size, 1, none⟩ (.int .i64 0)).setCell ⟨w.heap.size, 2, none⟩ (.int .i64 0)).cell? ⟨w.heap.size, 2, none⟩ = some (.int .i64 0) := World.cell?_setCell_same' _ _ _ (by simp [go_sem, z2])
              have r3 : ((((wr.setCell ⟨w.heap.size, 0, none⟩ (.int .i64 0)).setCell ⟨w.heap.size, 1, none⟩ (.int .i64 0)).setCell ⟨w.heap.size, 2, none⟩ (.int .i64 0)).setCell ⟨w.heap.size, 3, none⟩ (.int .i64 0)).cell? ⟨w.heap.size, 3, none⟩ = some (.int .i64 0) := World.cell?_setCell_same' _ _ _ (by simp [go_sem, z3])
              have r4 : (((((wr.setCell ⟨w.heap.size, 0, none⟩ (.int .i64 0)).setCell ⟨w.heap.size, 1, none⟩ (.int .i64 0)).setCell ⟨w.heap.size, 2, none⟩ (.int .i64 0)).setCell ⟨w.heap.size, 3, none⟩ (.int .i64 0)).setCell ⟨w.heap.size, 4, none⟩ (.slice none 0 0)).cell? ⟨w.heap.size, 4, none⟩ = some (.slice none 0 0) := World.cell?_setCell_same' _ _ _ (by simp [go_sem, z4])
              simp [results, Tryz.f6, go_sem, loadCells, loadCellsFrom, r0, r1, r2, r3, r4]
            · exact NO.out _ (((((BZ.out.setCell (p := ⟨w.heap.size, 0, none⟩) (Nat.le_refl _) _).setCell (p := ⟨w.heap.size, 1, none⟩) (Nat.le_refl _) _).setCell (p := ⟨w.heap.size, 2, none⟩) (Nat.le_refl _) _).setCell (p := ⟨w.heap.size, 3, none⟩) (Nat.le_refl _) _).setCell (p := ⟨w.heap.size, 4, none⟩) (Nat.le_refl _) _)
        · have z0 : wr.cell? ⟨w.heap.size, 0, none⟩ = some (.int .i64 0) := cell_of_row _ _ _ _ _ _ GZ.out
          have f0 : wr.frozen? ⟨w.heap.size, 0, none⟩ = false := by simp [World.frozen?, GZ.out]
          have z1 : wr.cell? ⟨w.heap.size, 1, none⟩ = some (.int .i64 0) := cell_of_row _ _ _ _ _ _ GZ.out
          have f1 : wr.frozen? ⟨w.heap.size, 1, none⟩ = false := by simp [World.frozen?, GZ.out]
          have z2 : wr.cell? ⟨w.heap.size, 2, none⟩ = some (.int .i64 0) := cell_of_row _ _ _ _ _ _ GZ.out
          have f2 : wr.frozen? ⟨w.heap.size, 2, none⟩ = false := by simp [World.frozen?, GZ.out]
          have z3 : wr.cell? ⟨w.heap.size, 3, none⟩ = some (.int .i64 0) := cell_of_row _ _ _ _ _ _ GZ.out
          have f3 : wr.frozen? ⟨w.heap.size, 3, none⟩ = false := by simp [World.frozen?, GZ.out]
          have z4 : wr.cell? ⟨w.heap.size, 4, none⟩ = some (.slice none 0 0) := cell_of_row _ _ _ _ _ _ GZ.out
          have f4 : wr.frozen? ⟨w.heap.size, 4, none⟩ = false := by simp [World.frozen?, GZ.out]
          go_wp2
          refine ⟨rfl, .tuple #[.agg #[.int .i64 0, .int .i64 0, .int .i64 0, .int .i64 0, .slice none 0 0], .int .i64 2], ?_, ?_⟩
          · have r0 : (wr.setCell ⟨w.heap.size, 0, none⟩ (.int .i64 0)).cell? ⟨w.heap.size, 0, none⟩ = some (.int .i64 0) := World.cell?_setCell_same' _ _ _ (by simp [go_sem, z0])
            have r1 : ((wr.setCell ⟨w.heap.size, 0, none⟩ (.int .i64 0)).setCell ⟨w.heap.size, 1, none⟩ (.int .i64 0)).cell? ⟨w.heap.size, 1, none⟩ = some (.int .i64 0) := World.cell?_setCell_same' _ _ _ (by simp [go_sem, z1])
            have r2 : (((wr.setCell ⟨w.heap.size, 0, none⟩ (.int .i64 0)).setCell ⟨w.heap.size, 1, none⟩ (.int .i64 0)).setCell ⟨w.heap.size, 2, none⟩ (.int .i64 0)).cell? ⟨w.heap.size, 2, none⟩ = some (.int .i64 0) := World.cell?_setCell_same' _ _ _ (by simp [go_sem, z2])
            have r3 : ((((wr.setCell ⟨w.heap.size, 0, none⟩ (.int .i64 0)).setCell ⟨w.heap.size, 1, none⟩ (.int .i64 0)).setCell ⟨w.heap.size, 2, none⟩ (.int .i64 0)).setCell ⟨w.heap.size, 3, none⟩ (.int .i64 0)).cell? ⟨w.heap.size, 3, none⟩ = some (.int .i64 0) := World.cell?_setCell_same' _ _ _ (by simp [go_sem, z3])
            have r4 : (((((wr.setCell ⟨w.heap.size, 0, none⟩ (.int .i64 0)).setCell ⟨w.heap.size, 1, none⟩ (.int .i64 0)).setCell ⟨w.heap.size, 2, none⟩ (.int .i64 0)).setCell ⟨w.heap.size, 3, none⟩ (.int .i64 0)).setCell ⟨w.heap.size, 4, none⟩ (.slice none 0 0)).cell? ⟨w.heap.size, 4, none⟩ = some (.slice none 0 0) := World.cell?_setCell_same' _ _ _ (by simp [go_sem, z4])
            simp [results, Tryz.f6, go_sem, loadCells, loadCellsFrom, r0, r1, r2, r3, r4]
          · exact NO.out _ (((((BZ.out.setCell (p := ⟨w.heap.size, 0, none⟩) (Nat.le_refl _) _).setCell (p := ⟨w.heap.size, 1, none⟩) (Nat.le_refl _) _).setCell (p := ⟨w.heap.size, 2, none⟩) (Nat.le_refl _) _).setCell (p := ⟨w.heap.size, 3, none⟩) (Nat.le_refl _) _).setCell (p := ⟨w.heap.size, 4, none⟩) (Nat.le_refl _) _)
      | false =>
        have hKY : YN = KK := by have : ¬ YN < KK := fun h => hc ⟨h, rfl⟩; omega
        have GW := keep hI.out.dq.res
        have BW := keep hI.out.dq.bel
        have FD : Hid (FirmD w.heap.size wr ⟨q, YN, cc, (G : Int), (N : Int), (Lg : Int), (Sq : Int), ys⟩) := ⟨(by have := hI.out.row; rw [HYN.out] at this; exact this), hI.out.each⟩
        have EN := keep (rencode_any ⟨q, YN, cc, (G : Int), (N : Int), (Lg : Int), (Sq : Int), ys⟩ wr FD.out.held)
        rw [show VV.v ⟨q, YN, cc, (G : Int), (N : Int), (Lg : Int), (Sq : Int), ys⟩ = Ed.ddV l from VL.out.symm] at EN
        unfold EncA VV.val at EN
        simp only at EN
        have y0 : wr.cell? ⟨vb, 0, none⟩ = some (.int .i64 (G : Int)) := hI.out.dq.cell 0
        have y1 : wr.cell? ⟨vb, 1, none⟩ = some (.int .i64 (N : Int)) := hI.out.dq.cell 1
        have y2 : wr.cell? ⟨vb, 2, none⟩ = some (.int .i64 (Lg : Int)) := hI.out.dq.cell 2
        have y3 : wr.cell? ⟨vb, 3, none⟩ = some (.int .i64 (Sq : Int)) := hI.out.dq.cell 3
        have y4 : wr.cell? ⟨vb, 4, none⟩ = some (.slice q YN cc) := hI.out.dq.cell 4
        clear hI hc
        by_cases h1 : (YN : Int) < (Kn : Int)
        · have h2 : ¬ (YN : Int) < 4096 := by omega
          clear hKY hyK hK hK4
          cases hck : Ed.chk (Ed.ddV l) with
          | false =>
            have e1 : chkN (Ed.ddV l) = 1 := by unfold chkN; rw [hck]; rfl
            have NV : Ed.isVer l = false := by rw [(Ed.dd_is l).1, hck, Bool.false_and, Bool.and_false]
            have NO := keep (fun w' => DecA.no (w := w) (w' := w') NV)
            rw [e1] at EN
            clear e1 NV hck
            go_wp2_with fail
            refine EN.out.mono ?_
            rintro e w4 ⟨a4, m4, c4, l4, rfl, hs4, hl4, hb4⟩
            have BZ := keep (BW.out.trans (hb4.mono BW.out.size))
            have GZ : Hid (w4.heap[w.heap.size]? = some (.cells #[.int .i64 0, .int .i64 0, .int .i64 0, .int .i64 0, .slice none 0 0] 32)) := (hb4.block _ (Array.getElem?_eq_some_iff.1 GW.out).1).trans GW.out
            clear hs4 hl4 hb4 EN y0 y1 y2 y3 y4 crd
            have z0 : w4.cell? ⟨w.heap.size, 0, none⟩ = some (.int .i64 0) := cell_of_row _ _ _ _ _ _ GZ.out
            have f0 : w4.frozen? ⟨w.heap.size, 0, none⟩ = false := by simp [World.frozen?, GZ.out]
            have z1 : w4.cell? ⟨w.heap.size, 1, none⟩ = some (.int .i64 0) := cell_of_row _ _ _ _ _ _ GZ.out
            have f1 : w4.frozen? ⟨w.heap.size, 1, none⟩ = false := by simp [World.frozen?, GZ.out]
            have z2 : w4.cell? ⟨w.heap.size, 2, none⟩ = some (.int .i64 0) := cell_of_row _ _ _ _ _ _ GZ.out
            have f2 : w4.frozen? ⟨w.heap.size, 2, none⟩ = false := by simp [World.frozen?, GZ.out]
            have z3 : w4.cell? ⟨w.heap.size, 3, none⟩ = some (.int .i64 0) := cell_of_row _ _ _ _ _ _ GZ.out
            have f3 : w4.frozen? ⟨w.heap.size, 3, none⟩ = false := by simp [World.frozen?, GZ.out]
            have z4 : w4.cell? ⟨w.heap.size, 4, none⟩ = some (.slice none 0 0) := cell_of_row _ _ _ _ _ _ GZ.out
            have f4 : w4.frozen? ⟨w.heap.size, 4, none⟩ = false := by simp [World.frozen?, GZ.out]
            go_wp2
            refine ⟨rfl, .tuple #[.agg #[.int .i64 0, .int .i64 0, .int .i64 0, .int .i64 0, .slice none 0 0], .int .i64 2], ?_, ?_⟩
            · have r0 : (w4.setCell ⟨w.heap.size, 0, none⟩ (.int .i64 0)).cell? ⟨w.heap.size, 0, none⟩ = some (.int .i64 0) := World.cell?_setCell_same' _ _ _ (by simp [go_sem, z0])
              have r1 : ((w4.setCell ⟨w.heap.size, 0, none⟩ (.int .i64 0)).setCell ⟨w.heap.size, 1, none⟩ (.int .i64 0)).cell? ⟨w.heap.size, 1, none⟩ = some (.int .i64 0) := World.cell?_setCell_same' _ _ _ (by simp [go_sem, z1])
              have r2 : (((w4.setCell ⟨w.heap.size, 0, none⟩ (.int .i64 0)).setCell ⟨w.heap.size, 1, none⟩ (.int .i64 0)).setCell ⟨w.heap.size, 2, none⟩ (.int .i64 0)).cell? ⟨w.heap.size, 2, none⟩ = some (.int .i64 0) := World.cell?_setCell_same' _ _ _ (by simp [go_sem, z2])
              have r3 : ((((w4.setCell ⟨w.heap.size, 0, none⟩ (.int .i64 0)).setCell ⟨w.heap.size, 1, none⟩ (.int .i64 0)).setCell ⟨w.heap.size, 2, none⟩ (.int .i64 0)).setCell ⟨w.heap.size, 3, none⟩ (.int .i64 0)).cell? ⟨w.heap.size, 3, none⟩ = some (.int .i64 0) := World.cell?_setCell_same' _ _ _ (by simp [go_sem, z3])
              have r4 : (((((w4.setCell ⟨w.heap.size, 0, none⟩ (.int .i64 0)).setCell ⟨w.heap.size, 1, none⟩ (.int .i64 0)).setCell ⟨w.heap.size, 2, none⟩ (.int .i64 0)).setCell ⟨w.heap.size, 3, none⟩ (.int .i64 0)).setCell ⟨w.heap.size, 4, none⟩ (.slice none 0 0)).cell? ⟨w.heap.size, 4, none⟩ = some (.slice none 0 0) := World.cell?_setCell_same' _ _ _ (by simp [go_sem, z4])
              simp [results, Tryz.f6, go_sem, loadCells, loadCellsFrom, r0, r1, r2, r3, r4]
            · exact NO.out _ (((((BZ.out.setCell (p := ⟨w.heap.size, 0, none⟩) (Nat.le_refl _) _).setCell (p := ⟨w.heap.size, 1, none⟩) (Nat.le_refl _) _).setCell (p := ⟨w.heap.size, 2, none⟩) (Nat.le_refl _) _).setCell (p := ⟨w.heap.size, 3, none⟩) (Nat.le_refl _) _).setCell (p := ⟨w.heap.size, 4, none⟩) (Nat.le_refl _) _)
          | true =>
            have e1 : chkN (Ed.ddV l) = 0 := by unfold chkN; rw [hck]; rfl
            rw [e1, hck, if_pos rfl] at EN
            have HCK := keep hck
            clear e1 hck
            go_wp2_with fail
            refine EN.out.mono ?_
            rintro e w4 ⟨p4, m4, c4, l4, rfl, hs4, hl4, hb4⟩
            have B4 := keep (BW.out.trans (hb4.mono BW.out.size))
            have G4 : Hid (w4.heap[w.heap.size]? = some (.cells #[.int .i64 0, .int .i64 0, .int .i64 0, .int .i64 0, .slice none 0 0] 32)) := (hb4.block _ (Array.getElem?_eq_some_iff.1 GW.out).1).trans GW.out
            have a0 := belowE hb4 y0
            have a1 := belowE hb4 y1
            have a2 := belowE hb4 y2
            have a3 := belowE hb4 y3
            have a4 := belowE hb4 y4
            have EQ := keep (same_any p4 m4 c4 l4 ao M0 c l w4 hs4 (by have := HS.out.below B4.out; rw [HM0.out] at this; exact this))
            have XF4 := keep (FD.out.below hb4)
            have IV : Hid (Ed.isVer l = decide (l4 = l)) := by show _ = _; rw [(Ed.dd_is l).1, PL.out, HCK.out, hl4]; rfl
            clear hs4 hl4 hb4 EN y0 y1 y2 y3 y4 crd
            by_cases he : l4 = l
            · rw [decide_eq_true he] at EQ IV
              clear he
              go_wp2_with fail
              refine EQ.out.mono ?_
              rintro e w5 ⟨rfl, hb5⟩
              clear EQ
              have BZ := keep (B4.out.trans (hb5.mono B4.out.size))
              have GZ : Hid (w5.heap[w.heap.size]? = some (.cells #[.int .i64 0, .int .i64 0, .int .i64 0, .int .i64 0, .slice none 0 0] 32)) := (hb5.block _ (Array.getElem?_eq_some_iff.1 G4.out).1).trans G4.out
              have XF5 := keep (XF4.out.below hb5)
              have b0 := belowE hb5 a0
              have b1 := belowE hb5 a1
              have b2 := belowE hb5 a2
              have b3 := belowE hb5 a3
              have b4 := belowE hb5 a4
              clear hb5 a0 a1 a2 a3 a4
              have z0 : w5.cell? ⟨w.heap.size, 0, none⟩ = some (.int .i64 0) := cell_of_row _ _ _ _ _ _ GZ.out
              have f0 : w5.frozen? ⟨w.heap.size, 0, none⟩ = false := by simp [World.frozen?, GZ.out]
              have z1 : w5.cell? ⟨w.heap.size, 1, none⟩ = some (.int .i64 0) := cell_of_row _ _ _ _ _ _ GZ.out
              have f1 : w5.frozen? ⟨w.heap.size, 1, none⟩ = false := by simp [World.frozen?, GZ.out]
              have z2 : w5.cell? ⟨w.heap.size, 2, none⟩ = some (.int .i64 0) := cell_of_row _ _ _ _ _ _ GZ.out
              have f2 : w5.frozen? ⟨w.heap.size, 2, none⟩ = false := by simp [World.frozen?, GZ.out]
              have z3 : w5.cell? ⟨w.heap.size, 3, none⟩ = some (.int .i64 0) := cell_of_row _ _ _ _ _ _ GZ.out
              have f3 : w5.frozen? ⟨w.heap.size, 3, none⟩ = false := by simp [World.frozen?, GZ.out]
              have z4 : w5.cell? ⟨w.heap.size, 4, none⟩ = some (.slice none 0 0) := cell_of_row _ _ _ _ _ _ GZ.out
              have f4 : w5.frozen? ⟨w.heap.size, 4, none⟩ = false := by simp [World.frozen?, GZ.out]
              go_wp2
              refine ⟨rfl, .tuple #[.agg #[.int .i64 (G : Int), .int .i64 (N : Int), .int .i64 (Lg : Int), .int .i64 (Sq : Int), .slice q YN cc], .int .i64 0], ?_, ?_⟩
              · have r0 : (w5.setCell ⟨w.heap.size, 0, none⟩ (.int .i64 (G : Int))).cell? ⟨w.heap.size, 0, none⟩ = some (.int .i64 (G : Int)) := World.cell?_setCell_same' _ _ _ (by simp [go_sem, z0])
                have r1 : ((w5.setCell ⟨w.heap.size, 0, none⟩ (.int .i64 (G : Int))).setCell ⟨w.heap.size, 1, none⟩ (.int .i64 (N : Int))).cell? ⟨w.heap.size, 1, none⟩ = some (.int .i64 (N : Int)) := World.cell?_setCell_same' _ _ _ (by simp [go_sem, z1])
                have r2 : (((w5.setCell ⟨w.heap.size, 0, none⟩ (.int .i64 (G : Int))).setCell ⟨w.heap.size, 1, none⟩ (.int .i64 (N : Int))).setCell ⟨w.heap.size, 2, none⟩ (.int .i64 (Lg : Int))).cell? ⟨w.heap.size, 2, none⟩ = some (.int .i64 (Lg : Int)) := World.cell?_setCell_same' _ _ _ (by simp [go_sem, z2])
                have r3 : ((((w5.setCell ⟨w.heap.size, 0, none⟩ (.int .i64 (G : Int))).setCell ⟨w.heap.size, 1, none⟩ (.int .i64 (N : Int))).setCell ⟨w.heap.size, 2, none⟩ (.int .i64 (Lg : Int))).setCell ⟨w.heap.size, 3, none⟩ (.int .i64 (Sq : Int))).cell? ⟨w.heap.size, 3, none⟩ = some (.int .i64 (Sq : Int)) := World.cell?_setCell_same' _ _ _ (by simp [go_sem, z3])
                have r4 : (((((w5.setCell ⟨w.heap.size, 0, none⟩ (.int .i64 (G : Int))).setCell ⟨w.heap.size, 1, none⟩ (.int .i64 (N : Int))).setCell ⟨w.heap.size, 2, none⟩ (.int .i64 (Lg : Int))).setCell ⟨w.heap.size, 3, none⟩ (.int .i64 (Sq : Int))).setCell ⟨w.heap.size, 4, none⟩ (.slice q YN cc)).cell? ⟨w.heap.size, 4, none⟩ = some (.slice q YN cc) := World.cell?_setCell_same' _ _ _ (by simp [go_sem, z4])
                simp [results, Tryz.f6, go_sem, loadCells, loadCellsFrom, r0, r1, r2, r3, r4]
              · have FJ := XF5.out.five GZ.out (by decide) (by decide) (.int .i64 (G : Int)) (.int .i64 (N : Int)) (.int .i64 (Lg : Int)) (.int .i64 (Sq : Int)) (.slice q YN cc)
                exact ⟨⟨⟨q, YN, cc, (G : Int), (N : Int), (Lg : Int), (Sq : Int), ys⟩, by rw [IV.out]; rfl, FJ.held, by rw [IV.out, if_pos rfl, ← (Ed.dd_is l).2 IV.out]; exact VL.out.symm⟩, (((((BZ.out.setCell (p := ⟨w.heap.size, 0, none⟩) (Nat.le_refl _) _).setCell (p := ⟨w.heap.size, 1, none⟩) (Nat.le_refl _) _).setCell (p := ⟨w.heap.size, 2, none⟩) (Nat.le_refl _) _).setCell (p := ⟨w.heap.size, 3, none⟩) (Nat.le_refl _) _).setCell (p := ⟨w.heap.size, 4, none⟩) (Nat.le_refl _) _)⟩
            · rw [decide_eq_false he] at EQ IV
              have NO := keep (fun w' => DecA.no (w := w) (w' := w') IV.out)
              clear he
              go_wp2_with fail
              refine EQ.out.mono ?_
              rintro e w5 ⟨rfl, hb5⟩
              clear EQ
              have BZ := keep (B4.out.trans (hb5.mono B4.out.size))
              have GZ : Hid (w5.heap[w.heap.size]? = some (.cells #[.int .i64 0, .int .i64 0, .int .i64 0, .int .i64 0, .slice none 0 0] 32)) := (hb5.block _ (Array.getElem?_eq_some_iff.1 G4.out).1).trans G4.out
              clear hb5 a0 a1 a2 a3 a4
              have z0 : w5.cell? ⟨w.heap.size, 0, none⟩ = some (.int .i64 0) := cell_of_row _ _ _ _ _ _ GZ.out
              have f0 : w5.frozen? ⟨w.heap.size, 0, none⟩ = false := by simp [World.frozen?, GZ.out]
              have z1 : w5.cell? ⟨w.heap.size, 1, none⟩ = some (.int .i64 0) := cell_of_row _ _ _ _ _ _ GZ.out
              have f1 : w5.frozen? ⟨w.heap.size, 1, none⟩ = false := by simp [World.frozen?, GZ.out]
              have z2 : w5.cell? ⟨w.heap.size, 2, none⟩ = some (.int .i64 0) := cell_of_row _ _ _ _ _ _ GZ.out
              have f2 : w5.frozen? ⟨w.heap.size, 2, none⟩ = false := by simp [World.frozen?, GZ.out]
              have z3 : w5.cell? ⟨w.heap.size, 3, none⟩ = some (.int .i64 0) := cell_of_row _ _ _ _ _ _ GZ.out
              have f3 : w5.frozen? ⟨w.heap.size, 3, none⟩ = false := by simp [World.frozen?, GZ.out]
              have z4 : w5.cell? ⟨w.heap.size, 4, none⟩ = some (.slice none 0 0) := cell_of_row _ _ _ _ _ _ GZ.out
              have f4 : w5.frozen? ⟨w.heap.size, 4, none⟩ = false := by simp [World.frozen?, GZ.out]
              go_wp2
              refine ⟨rfl, .tuple #[.agg #[.int .i64 0, .int .i64 0, .int .i64 0, .int .i64 0, .slice none 0 0], .int .i64 2], ?_, ?_⟩
              · have r0 : (w5.setCell ⟨w.heap.size, 0, none⟩ (.int .i64 0)).cell? ⟨w.heap.size, 0, none⟩ = some (.int .i64 0) := World.cell?_setCell_same' _ _ _ (by simp [go_sem, z0])
                have r1 : ((w5.setCell ⟨w.heap.size, 0, none⟩ (.int .i64 0)).setCell ⟨w.heap.size, 1, none⟩ (.int .i64 0)).cell? ⟨w.heap.size, 1, none⟩ = some (.int .i64 0) := World.cell?_setCell_same' _ _ _ (by simp [go_sem, z1])
                have r2 : (((w5.setCell ⟨w.heap.size, 0, none⟩ (.int .i64 0)).setCell ⟨w.heap.size, 1, none⟩ (.int .i64 0)).setCell ⟨w.heap.size, 2, none⟩ (.int .i64 0)).cell? ⟨w.heap.size, 2, none⟩ = some (.int .i64 0) := World.cell?_setCell_same' _ _ _ (by simp [go_sem, z2])
                have r3 : ((((w5.setCell ⟨w.heap.size, 0, none⟩ (.int .i64 0)).setCell ⟨w.heap.size, 1, none⟩ (.int .i64 0)).setCell ⟨w.heap.size, 2, none⟩ (.int .i64 0)).setCell ⟨w.heap.size, 3, none⟩ (.int .i64 0)).cell? ⟨w.heap.size, 3, none⟩ = some (.int .i64 0) := World.cell?_setCell_same' _ _ _ (by simp [go_sem, z3])
                have r4 : (((((w5.setCell ⟨w.heap.size, 0, none⟩ (.int .i64 0)).setCell ⟨w.heap.size, 1, none⟩ (.int .i64 0)).setCell ⟨w.heap.size, 2, none⟩ (.int .i64 0)).setCell ⟨w.heap.size, 3, none⟩ (.int .i64 0)).setCell ⟨w.heap.size, 4, none⟩ (.slice none 0 0)).cell? ⟨w.heap.size, 4, none⟩ = some (.slice none 0 0) := World.cell?_setCell_same' _ _ _ (by simp [go_sem, z4])
                simp [results, Tryz.f6, go_sem, loadCells, loadCellsFrom, r0, r1, r2, r3, r4]
              · exact NO.out _ (((((BZ.out.setCell (p := ⟨w.heap.size, 0, none⟩) (Nat.le_refl _) _).setCell (p := ⟨w.heap.size, 1, none⟩) (Nat.le_refl _) _).setCell (p := ⟨w.heap.size, 2, none⟩) (Nat.le_refl _) _).setCell (p := ⟨w.heap.size, 3, none⟩) (Nat.le_refl _) _).setCell (p := ⟨w.heap.size, 4, none⟩) (Nat.le_refl _) _)
        · clear hKY hyK hK hK4
          cases hck : Ed.chk (Ed.ddV l) with
          | false =>
            have e1 : chkN (Ed.ddV l) = 1 := by unfold chkN; rw [hck]; rfl
            have NV : Ed.isVer l = false := by rw [(Ed.dd_is l).1, hck, Bool.false_and, Bool.and_false]
            have NO := keep (fun w' => DecA.no (w := w) (w' := w') NV)
            rw [e1] at EN
            clear e1 NV hck
            go_wp2_with fail
            refine EN.out.mono ?_
            rintro e w4 ⟨a4, m4, c4, l4, rfl, hs4, hl4, hb4⟩
            have BZ := keep (BW.out.trans (hb4.mono BW.out.size))
            have GZ : Hid (w4.heap[w.heap.size]? = some (.cells #[.int .i64 0, .int .i64 0, .int .i64 0, .int .i64 0, .slice none 0 0] 32)) := (hb4.block _ (Array.getElem?_eq_some_iff.1 GW.out).1).trans GW.out
            clear hs4 hl4 hb4 EN y0 y1 y2 y3 y4 crd
            have z0 : w4.cell? ⟨w.heap.size, 0, none⟩ = some (.int .i64 0) := cell_of_row _ _ _ _ _ _ GZ.out
            have f0 : w4.frozen? ⟨w.heap.size, 0, none⟩ = false := by simp [World.frozen?, GZ.out]
            have z1 : w4.cell? ⟨w.heap.size, 1, none⟩ = some (.int .i64 0) := cell_of_row _ _ _ _ _ _ GZ.out
            have f1 : w4.frozen? ⟨w.heap.size, 1, none⟩ = false := by simp [World.frozen?, GZ.out]
            have z2 : w4.cell? ⟨w.heap.size, 2, none⟩ = some (.int .i64 0) := cell_of_row _ _ _ _ _ _ GZ.out
            have f2 : w4.frozen? ⟨w.heap.size, 2, none⟩ = false := by simp [World.frozen?, GZ.out]
            have z3 : w4.cell? ⟨w.heap.size, 3, none⟩ = some (.int .i64 0) := cell_of_row _ _ _ _ _ _ GZ.out
            have f3 : w4.frozen? ⟨w.heap.size, 3, none⟩ = false := by simp [World.frozen?, GZ.out]
            have z4 : w4.cell? ⟨w.heap.size, 4, none⟩ = some (.slice none 0 0) := cell_of_row _ _ _ _ _ _ GZ.out
            have f4 : w4.frozen? ⟨w.heap.size, 4, none⟩ = false := by simp [World.frozen?, GZ.out]
            go_wp2
            refine ⟨rfl, .tuple #[.agg #[.int .i64 0, .int .i64 0, .int .i64 0, .int .i64 0, .slice none 0 0], .int .i64 2], ?_, ?_⟩
            · have r0 : (w4.setCell ⟨w.heap.size, 0, none⟩ (.int .i64 0)).cell? ⟨w.heap.size, 0, none⟩ = some (.int .i64 0) := World.cell?_setCell_same' _ _ _ (by simp [go_sem, z0])
              have r1 : ((w4.setCell ⟨w.heap.size, 0, none⟩ (.int .i64 0)).setCell ⟨w.heap.size, 1, none⟩ (.int .i64 0)).cell? ⟨w.heap.size, 1, none⟩ = some (.int .i64 0) := World.cell?_setCell_same' _ _ _ (by simp [go_sem, z1])
              have r2 : (((w4.setCell ⟨w.heap.size, 0, none⟩ (.int .i64 0)).setCell ⟨w.heap.size, 1, none⟩ (.int .i64 0)).setCell ⟨w.heap.size, 2, none⟩ (.int .i64 0)).cell? ⟨w.heap.size, 2, none⟩ = some (.int .i64 0) := World.cell?_setCell_same' _ _ _ (by simp [go_sem, z2])
              have r3 : ((((w4.setCell ⟨w.heap.size, 0, none⟩ (.int .i64 0)).setCell ⟨w.heap.size, 1, none⟩ (.int .i64 0)).setCell ⟨w.heap.size, 2, none⟩ (.int .i64 0)).setCell ⟨w.heap.size, 3, none⟩ (.int .i64 0)).cell? ⟨w.heap.size, 3, none⟩ = some (.int .i64 0) := World.cell?_setCell_same' _ _ _ (by simp [go_sem, z3])
              have r4 : (((((w4.setCell ⟨w.heap.size, 0, none⟩ (.int .i64 0)).setCell ⟨w.heap.size, 1, none⟩ (.int .i64 0)).setCell ⟨w.heap.size, 2, none⟩ (.int .i64 0)).setCell ⟨w.heap.size, 3, none⟩ (.int .i64 0)).setCell ⟨w.heap.size, 4, none⟩ (.slice none 0 0)).cell? ⟨w.heap.size, 4, none⟩ = some (.slice none 0 0) := World.cell?_setCell_same' _ _ _ (by simp [go_sem, z4])
              simp [results, Tryz.f6, go_sem, loadCells, loadCellsFrom, r0, r1, r2, r3, r4]
            · exact NO.out _ (((((BZ.out.setCell (p := ⟨w.heap.size, 0, none⟩) (Nat.le_refl _) _).setCell (p := ⟨w.heap.size, 1, none⟩) (Nat.le_refl _) _).setCell (p := ⟨w.heap.size, 2, none⟩) (Nat.le_refl _) _).setCell (p := ⟨w.heap.size, 3, none⟩) (Nat.le_refl _) _).setCell (p := ⟨w.heap.size, 4, none⟩) (Nat.le_refl _) _)
          | true =>
            have e1 : chkN (Ed.ddV l) = 0 := by unfold chkN; rw [hck]; rfl
            rw [e1, hck, if_pos rfl] at EN
            have HCK := keep hck
            clear e1 hck
            go_wp2_with fail
            refine EN.out.mono ?_
            rintro e w4 ⟨p4, m4, c4, l4, rfl, hs4, hl4, hb4⟩
            have B4 := keep (BW.out.trans (hb4.mono BW.out.size))
            have G4 : Hid (w4.heap[w.heap.size]? = some (.cells #[.int .i64 0, .int .i64 0, .int .i64 0, .int .i64 0, .slice none 0 0] 32)) := (hb4.block _ (Array.getElem?_eq_some_iff.1 GW.out).1).trans GW.out
            have a0 := belowE hb4 y0
            have a1 := belowE hb4 y1
            have a2 := belowE hb4 y2
            have a3 := belowE hb4 y3
            have a4 := belowE hb4 y4
            have EQ := keep (same_any p4 m4 c4 l4 ao M0 c l w4 hs4 (by have := HS.out.below B4.out; rw [HM0.out] at this; exact this))
            have XF4 := keep (FD.out.below hb4)
            have IV : Hid (Ed.isVer l = decide (l4 = l)) := by show _ = _; rw [(Ed.dd_is l).1, PL.out, HCK.out, hl4]; rfl
            clear hs4 hl4 hb4 EN y0 y1 y2 y3 y4 crd
            by_cases he : l4 = l
            · rw [decide_eq_true he] at EQ IV
              clear he
              go_wp2_with fail
              refine EQ.out.mono ?_
              rintro e w5 ⟨rfl, hb5⟩
              clear EQ
              have BZ := keep (B4.out.trans (hb5.mono B4.out.size))
              have GZ : Hid (w5.heap[w.heap.size]? = some (.cells #[.int .i64 0, .int .i64 0, .int .i64 0, .int .i64 0, .slice none 0 0] 32)) := (hb5.block _ (Array.getElem?_eq_some_iff.1 G4.out).1).trans G4.out
              have XF5 := keep (XF4.out.below hb5)
              have b0 := belowE hb5 a0
              have b1 := belowE hb5 a1
              have b2 := belowE hb5 a2
              have b3 := belowE hb5 a3
              have b4 := belowE hb5 a4
              clear hb5 a0 a1 a2 a3 a4
              have z0 : w5.cell? ⟨w.heap.size, 0, none⟩ = some (.int .i64 0) := cell_of_row _ _ _ _ _ _ GZ.out
              have f0 : w5.frozen? ⟨w.heap.size, 0, none⟩ = false := by simp [World.frozen?, GZ.out]
              have z1 : w5.cell? ⟨w.heap.size, 1, none⟩ = some (.int .i64 0) := cell_of_row _ _ _ _ _ _ GZ.out
              have f1 : w5.frozen? ⟨w.heap.size, 1, none⟩ = false := by simp [World.frozen?, GZ.out]
              have z2 : w5.cell? ⟨w.heap.size, 2, none⟩ = some (.int .i64 0) := cell_of_row _ _ _ _ _ _ GZ.out
              have f2 : w5.frozen? ⟨w.heap.size, 2, none⟩ = false := by simp [World.frozen?, GZ.out]
              have z3 : w5.cell? ⟨w.heap.size, 3, none⟩ = some (.int .i64 0) := cell_of_row _ _ _ _ _ _ GZ.out
              have f3 : w5.frozen? ⟨w.heap.size, 3, none⟩ = false := by simp [World.frozen?, GZ.out]
              have z4 : w5.cell? ⟨w.heap.size, 4, none⟩ = some (.slice none 0 0) := cell_of_row _ _ _ _ _ _ GZ.out
              have f4 : w5.frozen? ⟨w.heap.size, 4, none⟩ = false := by simp [World.frozen?, GZ.out]
              go_wp2
              refine ⟨rfl, .tuple #[.agg #[.int .i64 (G : Int), .int .i64 (N : Int), .int .i64 (Lg : Int), .int .i64 (Sq : Int), .slice q YN cc], .int .i64 0], ?_, ?_⟩
              · have r0 : (w5.setCell ⟨w.heap.size, 0, none⟩ (.int .i64 (G : Int))).cell? ⟨w.heap.size, 0, none⟩ = some (.int .i64 (G : Int)) := World.cell?_setCell_same' _ _ _ (by simp [go_sem, z0])
                have r1 : ((w5.setCell ⟨w.heap.size, 0, none⟩ (.int .i64 (G : Int))).setCell ⟨w.heap.size, 1, none⟩ (.int .i64 (N : Int))).cell? ⟨w.heap.size, 1, none⟩ = some (.int .i64 (N : Int)) := World.cell?_setCell_same' _ _ _ (by simp [go_sem, z1])
                have r2 : (((w5.setCell ⟨w.heap.size, 0, none⟩ (.int .i64 (G : Int))).setCell ⟨w.heap.size, 1, none⟩ (.int .i64 (N : Int))).setCell ⟨w.heap.size, 2, none⟩ (.int .i64 (Lg : Int))).cell? ⟨w.heap.size, 2, none⟩ = some (.int .i64 (Lg : Int)) := World.cell?_setCell_same' _ _ _ (by simp [go_sem, z2])
                have r3 : ((((w5.setCell ⟨w.heap.size, 0, none⟩ (.int .i64 (G : Int))).setCell ⟨w.heap.size, 1, none⟩ (.int .i64 (N : Int))).setCell ⟨w.heap.size, 2, none⟩ (.int .i64 (Lg : Int))).setCell ⟨w.heap.size, 3, none⟩ (.int .i64 (Sq : Int))).cell? ⟨w.heap.size, 3, none⟩ = some (.int .i64 (Sq : Int)) := World.cell?_setCell_same' _ _ _ (by simp [go_sem, z3])
                have r4 : (((((w5.setCell ⟨w.heap.size, 0, none⟩ (.int .i64 (G : Int))).setCell ⟨w.heap.size, 1, none⟩ (.int .i64 (N : Int))).setCell ⟨w.heap.size, 2, none⟩ (.int .i64 (Lg : Int))).setCell ⟨w.heap.size, 3, none⟩ (.int .i64 (Sq : Int))).setCell ⟨w.heap.size, 4, none⟩ (.slice q YN cc)).cell? ⟨w.heap.size, 4, none⟩ = some (.slice q YN cc) := World.cell?_setCell_same' _ _ _ (by simp [go_sem, z4])
                simp [results, Tryz.f6, go_sem, loadCells, loadCellsFrom, r0, r1, r2, r3, r4]
              · have FJ := XF5.out.five GZ.out (by decide) (by decide) (.int .i64 (G : Int)) (.int .i64 (N : Int)) (.int .i64 (Lg : Int)) (.int .i64 (Sq : Int)) (.slice q YN cc)
                exact ⟨⟨⟨q, YN, cc, (G : Int), (N : Int), (Lg : Int), (Sq : Int), ys⟩, by rw [IV.out]; rfl, FJ.held, by rw [IV.out, if_pos rfl, ← (Ed.dd_is l).2 IV.out]; exact VL.out.symm⟩, (((((BZ.out.setCell (p := ⟨w.heap.size, 0, none⟩) (Nat.le_refl _) _).setCell (p := ⟨w.heap.size, 1, none⟩) (Nat.le_refl _) _).setCell (p := ⟨w.heap.size, 2, none⟩) (Nat.le_refl _) _).setCell (p := ⟨w.heap.size, 3, none⟩) (Nat.le_refl _) _).setCell (p := ⟨w.heap.size, 4, none⟩) (Nat.le_refl _) _)⟩
            · rw [decide_eq_false he] at EQ IV
              have NO := keep (fun w' => DecA.no (w := w) (w' := w') IV.out)
              clear he
              go_wp2_with fail
              refine EQ.out.mono ?_
              rintro e w5 ⟨rfl, hb5⟩
              clear EQ
              have BZ := keep (B4.out.trans (hb5.mono B4.out.size))
              have GZ : Hid (w5.heap[w.heap.size]? = some (.cells #[.int .i64 0, .int .i64 0, .int .i64 0, .int .i64 0, .slice none 0 0] 32)) := (hb5.block _ (Array.getElem?_eq_some_iff.1 G4.out).1).trans G4.out
              clear hb5 a0 a1 a2 a3 a4
              have z0 : w5.cell? ⟨w.heap.size, 0, none⟩ = some (.int .i64 0) := cell_of_row _ _ _ _ _ _ GZ.out
              have f0 : w5.frozen? ⟨w.heap.size, 0, none⟩ = false := by simp [World.frozen?, GZ.out]
              have z1 : w5.cell? ⟨w.heap.size, 1, none⟩ = some (.int .i64 0) := cell_of_row _ _ _ _ _ _ GZ.out
              have f1 : w5.frozen? ⟨w.heap.size, 1, none⟩ = false := by simp [World.frozen?, GZ.out]
              have z2 : w5.cell? ⟨w.heap.size, 2, none⟩ = some (.int .i64 0) := cell_of_row _ _ _ _ _ _ GZ.out
              have f2 : w5.frozen? ⟨w.heap.size, 2, none⟩ = false := by simp [World.frozen?, GZ.out]
              have z3 : w5.cell? ⟨w.heap.size, 3, none⟩ = some (.int .i64 0) := cell_of_row _ _ _ _ _ _ GZ.out
              have f3 : w5.frozen? ⟨w.heap.size, 3, none⟩ = false := by simp [World.frozen?, GZ.out]
              have z4 : w5.cell? ⟨w.heap.size, 4, none⟩ = some (.slice none 0 0) := cell_of_row _ _ _ _ _ _ GZ.out
              have f4 : w5.frozen? ⟨w.heap.size, 4, none⟩ = false := by simp [World.frozen?, GZ.out]
              go_wp2
              refine ⟨rfl, .tuple #[.agg #[.int .i64 0, .int .i64 0, .int .i64 0, .int .i64 0, .slice none 0 0], .int .i64 2], ?_, ?_⟩
              · have r0 : (w5.setCell ⟨w.heap.size, 0, none⟩ (.int .i64 0)).cell? ⟨w.heap.size, 0, none⟩ = some (.int .i64 0) := World.cell?_setCell_same' _ _ _ (by simp [go_sem, z0])
                have r1 : ((w5.setCell ⟨w.heap.size, 0, none⟩ (.int .i64 0)).setCell ⟨w.heap.size, 1, none⟩ (.int .i64 0)).cell? ⟨w.heap.size, 1, none⟩ = some (.int .i64 0) := World.cell?_setCell_same' _ _ _ (by simp [go_sem, z1])
                have r2 : (((w5.setCell ⟨w.heap.size, 0, none⟩ (.int .i64 0)).setCell ⟨w.heap.size, 1, none⟩ (.int .i64 0)).setCell ⟨w.heap.size, 2, none⟩ (.int .i64 0)).cell? ⟨w.heap.size, 2, none⟩ = some (.int .i64 0) := World.cell?_setCell_same' _ _ _ (by simp [go_sem, z2])
                have r3 : ((((w5.setCell ⟨w.heap.size, 0, none⟩ (.int .i64 0)).setCell ⟨w.heap.size, 1, none⟩ (.int .i64 0)).setCell ⟨w.heap.size, 2, none⟩ (.int .i64 0)).setCell ⟨w.heap.size, 3, none⟩ (.int .i64 0)).cell? ⟨w.heap.size, 3, none⟩ = some (.int .i64 0) := World.cell?_setCell_same' _ _ _ (by simp [go_sem, z3])
                have r4 : (((((w5.setCell ⟨w.heap.size, 0, none⟩ (.int .i64 0)).setCell ⟨w.heap.size, 1, none⟩ (.int .i64 0)).setCell ⟨w.heap.size, 2, none⟩ (.int .i64 0)).setCell ⟨w.heap.size, 3, none⟩ (.int .i64 0)).setCell ⟨w.heap.size, 4, none⟩ (.slice none 0 0)).cell? ⟨w.heap.size, 4, none⟩ = some (.slice none 0 0) := World.cell?_setCell_same' _ _ _ (by simp [go_sem, z4])
                simp [results, Tryz.f6, go_sem, loadCells, loadCellsFrom, r0, r1, r2, r3, r4]
              · exact NO.out _ (((((BZ.out.setCell (p := ⟨w.heap.size, 0, none⟩) (Nat.le_refl _) _).setCell (p := ⟨w.heap.size, 1, none⟩) (Nat.le_refl _) _).setCell (p := ⟨w.heap.size, 2, none⟩) (Nat.le_refl _) _).setCell (p := ⟨w.heap.size, 3, none⟩) (Nat.le_refl _) _).setCell (p := ⟨w.heap.size, 4, none⟩) (Nat.le_refl _) _)
end Go.Proofs.YthaiodajfmbeaaaGreat
