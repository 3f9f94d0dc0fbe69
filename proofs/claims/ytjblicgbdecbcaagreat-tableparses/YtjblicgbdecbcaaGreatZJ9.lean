/- The walk of block's takeEntry. -/
import Derived.Test.YtjblicgbdecbcaaGreatZJ8j
namespace Go.Proofs.YtjblicgbdecbcaaGreat
open Go.RowKit
open Sk (Ent)

/-- An entry that can be read, its bytes in blocks of bytes. -/
def HeldT (w : World) (y : EV) : Prop := entKind.held w y ∧ In5 w y.kp ∧ In5 w y.vp
/-- Blocks of bytes are as they were. -/
def T5 (w w' : World) : Prop := ∀ (g : Nat) (cur : Array Value) (fr : Nat × Nat), w.heap[g]? = some (.cells cur 5 fr) → w'.heap[g]? = w.heap[g]?
theorem In5.turn {w w' : World} {ao : Option Addr} (h : In5 w ao) (ht : T5 w w') : In5 w' ao := fun ad had => by
  obtain ⟨cur, fr, hc⟩ := h ad had
  exact ⟨cur, fr, (ht _ _ _ hc).trans hc⟩
theorem src_turn {w w' : World} {ao : Option Addr} {m c : Nat} {l : List UInt8} (h : Src w ao m c l) (h5 : In5 w ao) (ht : T5 w w') : Src w' ao m c l :=
  ⟨h.len, h.cap, h.nil, fun ad had j u hu => by
    have hc := h.cells ad had j u hu
    obtain ⟨cur, fr, hh⟩ := h5 ad had
    have hblk : (ad.add j).block = ad.block := by unfold Addr.add; split <;> rfl
    rw [World.cell?_of_block (w := w) (by rw [hblk]; exact ht _ _ _ hh)]
    exact hc⟩
theorem HeldT.turn {w w' : World} {y : EV} (h : HeldT w y) (ht : T5 w w') : HeldT w' y := ⟨⟨src_turn h.1.1 h.2.1 ht, src_turn h.1.2 h.2.2 ht⟩, h.2.1.turn ht, h.2.2.turn ht⟩
theorem T5.of_below {w w' : World} (h : Below w.heap.size w w') : T5 w w' := fun g _ _ hg => h.block g (Array.getElem?_eq_some_iff.1 hg).1
theorem T5.of_kept {w w' : World} {r : Nat} {cs : Array Value} {t : TypeId} {fr : Nat × Nat} (hr : w.heap[r]? = some (.cells cs t fr)) (hne : t ≠ 5) (h : Kept (· = r) w w') : T5 w w' := fun g cur fr' hg => h.block g (Array.getElem?_eq_some_iff.1 hg).1 (fun e => by
  rw [e, hr] at hg
  simp only [Option.some.injEq, Obj.cells.injEq] at hg
  exact hne hg.2.1)
theorem T5.of_grown {w w' : World} {v : Value} {B n t k : Nat} {xs : List Value} (hv : w.ownsRow B t k v n xs) (hne : t ≠ 5) (hg : w.grownBy w' v.ownBlock) : T5 w w' := fun g cur fr hc => hg.block g (Array.getElem?_eq_some_iff.1 hc).1 (fun e => by
  obtain ⟨c2, h2⟩ := own_tag hv e.symm
  rw [h2] at hc
  simp only [Option.some.injEq, Obj.cells.injEq] at hc
  exact hne hc.2.1)
theorem Rd.turn {r : Nat} {w w' : World} {rest : List UInt8} (h : Rd r w rest) (hk : Kept (· = r) w w') : T5 w w' := by
  obtain ⟨ra, rc, h1, _⟩ := h
  exact T5.of_kept h1 (by decide) hk
theorem Rd5.turn {r : Nat} {w w' : World} {U : Nat → Prop} (h : Rd5 r w) (hk : Kept U w w') (hr : ¬ U r) (ht : T5 w w') (hlt : r < w.heap.size) : Rd5 r w' := fun ra m rc t fr hh => by
  rw [hk.block r hlt hr] at hh
  exact (h ra m rc t fr hh).turn ht
theorem in5_conv (w : World) (s : ByteArray) : In5 (Lib.bytesWorld w 5 s) (some ⟨w.heap.size, 0, none⟩) := fun ad had => by
  cases had
  exact ⟨_, _, Lib.bytesWorld_at_new w 5 s⟩
theorem take_min (l : List UInt8) (N A : Nat) (h : l.length = A) : l.take N = l.take (if A < N then A else N) := by
  split
  · rw [List.take_of_length_le (by omega), List.take_of_length_le (by omega)]
  · rfl
set_option maxHeartbeats 2000000 in
set_option maxRecDepth 100000 in
theorem takeEntry_any (ap : Option Addr) (A ac : Nat) (ahead : List UInt8) (r : Nat) (rest : List UInt8) (w : World) (h : Rd r w rest) (hm : rest.length ≤ 140737488355328) (hA : A ≤ 1000000) (ha : Src w ap A ac ahead) :
    Calls Tryz.prog 98 #[.slice ap A ac, (.func (.func 89) #[.pointer (some ⟨r, 0, none⟩)] #[]), (.func (.func 90) #[.pointer (some ⟨r, 0, none⟩)] #[])] w fun e w' => ∃ y : EV, e = .returned (ev y) ∧ y.e = Bq.rdE ahead rest ∧ HeldT w' y ∧ Rd r w' (Bq.rdR rest) ∧ Rd5 r w' ∧ Kept (· = r) w w' := by
  have lR1 := Bq.rOf_len rest
  have lS1 : (Bq.tS (rOf rest) 64).length ≤ 64 := Bq.tS_len (rOf rest) 64
  have lR2 := Bq.tR_len (rOf rest) 64
  have lR3 := Bq.rOf_len (Bq.tR (rOf rest) 64)
  have lS3 : (Bq.tS (rOf (Bq.tR (rOf rest) 64)) 1024).length ≤ 1024 := Bq.tS_len (rOf (Bq.tR (rOf rest) 64)) 1024
  have ln0 := Bq.nOf_le rest
  have ln2 := Bq.nOf_le (Bq.tR (rOf rest) 64)
  have RN1 : Hid (∀ w', Rd r w' rest → Calls Tryz.prog 89 #[.pointer (some ⟨r, 0, none⟩)] w' (Read r w' (.int .i64 (nOf rest : Int)) (rOf rest))) := fun w' hr => num_read r _ w' hr hm
  have RT1 : Hid (∀ w', Rd r w' (rOf rest) → Calls Tryz.prog 90 #[.pointer (some ⟨r, 0, none⟩), .int .i64 64] w' (Read r w' (.string ⟨(Bq.tS (rOf rest) 64).toArray⟩) (Bq.tR (rOf rest) 64))) := fun w' hr => text_read r _ 64 w' hr (by omega)
  have RN2 : Hid (∀ w', Rd r w' (Bq.tR (rOf rest) 64) → Calls Tryz.prog 89 #[.pointer (some ⟨r, 0, none⟩)] w' (Read r w' (.int .i64 (nOf (Bq.tR (rOf rest) 64) : Int)) (rOf (Bq.tR (rOf rest) 64)))) := fun w' hr => num_read r _ w' hr (by omega)
  have RT2 : Hid (∀ w', Rd r w' (rOf (Bq.tR (rOf rest) 64)) → Calls Tryz.prog 90 #[.pointer (some ⟨r, 0, none⟩), .int .i64 1024] w' (Read r w' (.string ⟨(Bq.tS (rOf (Bq.tR (rOf rest) 64)) 1024).toArray⟩) (Bq.tR (rOf (Bq.tR (rOf rest) 64)) 1024))) := fun w' hr => text_read r _ 1024 w' hr (by omega)
  have EE : Hid (Bq.rdE ahead rest = ⟨ahead.take (nOf rest) ++ Bq.tS (rOf rest) 64, ((nOf (Bq.tR (rOf rest) 64) / 2 : Nat) : Int), decide (nOf (Bq.tR (rOf rest) 64) % 2 = 1), Bq.tS (rOf (Bq.tR (rOf rest) 64)) 1024⟩) := rfl
  have ER : Hid (Bq.rdR rest = Bq.tR (rOf (Bq.tR (rOf rest) 64)) 1024) := rfl
  obtain ⟨R4, hR4⟩ : ∃ R, Bq.tR (rOf (Bq.tR (rOf rest) 64)) 1024 = R := ⟨_, rfl⟩
  obtain ⟨S3, hS3⟩ : ∃ S, Bq.tS (rOf (Bq.tR (rOf rest) 64)) 1024 = S := ⟨_, rfl⟩
  rw [hR4] at RT2 ER
  rw [hS3] at RT2 EE lS3
  obtain ⟨R3, hR3⟩ : ∃ R, rOf (Bq.tR (rOf rest) 64) = R := ⟨_, rfl⟩
  obtain ⟨N2, hN2⟩ : ∃ R, nOf (Bq.tR (rOf rest) 64) = R := ⟨_, rfl⟩
  rw [hR3] at RN2 RT2 lR3
  rw [hN2] at RN2 EE ln2
  obtain ⟨R2, hR2⟩ : ∃ R, Bq.tR (rOf rest) 64 = R := ⟨_, rfl⟩
  obtain ⟨S1, hS1⟩ : ∃ S, Bq.tS (rOf rest) 64 = S := ⟨_, rfl⟩
  rw [hR2] at RN2 RT1 lR2 lR3
  rw [hS1] at RT1 EE lS1
  obtain ⟨R1, hR1⟩ : ∃ R, rOf rest = R := ⟨_, rfl⟩
  obtain ⟨N0, hN0⟩ : ∃ R, nOf rest = R := ⟨_, rfl⟩
  rw [hR1] at RN1 RT1 lR1 lR2
  rw [hN0] at RN1 EE ln0
  have HAL := keep ha.len
  have TM := keep (take_min ahead N0 A ha.len)
  clear hR4 hS3 hR3 hN2 hR2 hS1 hR1 hN0 lR1 lR2 lR3 hm
  have HT := keep (ha)
  have H0 := keep h
  have hac := ha.cap
  clear ha h
  unfold Read at RN1 RT1 RN2 RT2
  obtain ⟨W1, hW1⟩ : ∃ W1, w.alloc (.cells #[.slice none 0 0, .int .i64 0, .bool false, .slice none 0 0] 37) = W1 := ⟨_, rfl⟩
  have b1 : Hid (Below w.heap.size w W1) := by rw [← hW1]; exact (Below.refl _ _).alloc (Nat.le_refl _) _
  have g1 : Hid (W1.heap[w.heap.size]? = some (.cells #[.slice none 0 0, .int .i64 0, .bool false, .slice none 0 0] 37)) := by rw [← hW1]; exact heap_alloc_new w _
  have s1 : Hid (W1.heap.size = w.heap.size + 1) := by rw [← hW1]; exact alloc_size _ _
  have D1 := keep (H0.out.below b1.out)
  have hrw : r ≠ w.heap.size := Nat.ne_of_lt H0.out.lt
  have RW := keep hrw
  have A1 := keep (HT.out.below b1.out)
  clear hrw
  go_enter Tryz.func98, Tryz.ntmps98
  go_wp2_with fail
  refine (RN1.out _ D1.out).mono ?_
  rintro e w2 ⟨rfl, hd2, h52, hk2⟩
  have D2 := keep hd2
  have K2 := keep hk2
  have A2 := keep (D1.out.src hk2 A1.out)
  clear hd2 hk2 h52 RN1 hW1
  by_cases hNA : A < N0
  · have TM2 : Hid (ahead.take N0 = ahead.take A) := by
      have := TM.out
      rwa [if_pos hNA] at this
    have hTA : A ≤ A := by omega
    have i1 : (0 : Int) ≤ (A : Int) := by omega
    have i2 : (A : Int) ≤ (A : Int) := by omega
    have i3 : (A : Int) ≤ (ac : Int) := by omega
    go_wp2_with fail
    refine (RT1.out _ D2.out).mono ?_
    rintro e w3 ⟨rfl, hd3, h53, hk3⟩
    have D3 := keep hd3
    have K3 := keep hk3
    have A3 := keep (D2.out.src hk3 A2.out)
    clear hd3 hk3 h53 RT1
    go_wp2_with fail
    refine (RN2.out _ D3.out).mono ?_
    rintro e w4 ⟨rfl, hd4, h54, hk4⟩
    have D4 := keep hd4
    have K4 := keep hk4
    have A4 := keep (D3.out.src hk4 A3.out)
    clear hd4 hk4 h54 RN2
    have cv1 := conv_str S1 S1.length rfl w4
    obtain ⟨kS, hkS⟩ : ∃ kS, grownCap w4 S1.length 0 5 = kS := ⟨_, rfl⟩
    have S5 : Hid (Src (Lib.bytesWorld w4 5 ⟨S1.toArray⟩) (some ⟨w4.heap.size, 0, none⟩) S1.length kS S1) := by rw [← hkS]; exact Src.converted w4 S1 S1.length rfl
    have b5 := keep (below_bytesWorld w4 ⟨S1.toArray⟩)
    have z5 : Hid ((Lib.bytesWorld w4 5 ⟨S1.toArray⟩).heap.size = w4.heap.size + 1) := Lib.bytesWorld_size _ _ _
    rw [hkS] at cv1
    obtain ⟨W5, hW5⟩ : ∃ W5, Lib.bytesWorld w4 5 ⟨S1.toArray⟩ = W5 := ⟨_, rfl⟩
    rw [hW5] at cv1 S5 b5 z5
    clear hkS hW5
    have A5 := keep (A4.out.below b5.out)
    have AT := keep (A5.out.head A hTA)
    have D5 := keep (D4.out.below b5.out)
    obtain ⟨W6, hW6⟩ : ∃ W6, W5.alloc (.cells #[.slice ap A ac, .slice (some ⟨w4.heap.size, 0, none⟩) S1.length kS] 24) = W6 := ⟨_, rfl⟩
    have b6 : Hid (Below W5.heap.size W5 W6) := by rw [← hW6]; exact (Below.refl _ _).alloc (Nat.le_refl _) _
    have g6 : Hid (W6.heap[W5.heap.size]? = some (.cells #[.slice ap A ac, .slice (some ⟨w4.heap.size, 0, none⟩) S1.length kS] 24)) := by rw [← hW6]; exact heap_alloc_new W5 _
    have CC := keep (concat_two W5.heap.size ap A ac (ahead.take A) (some ⟨w4.heap.size, 0, none⟩) S1.length kS S1 W6 (by omega) (cell_of_row _ _ _ _ _ _ g6.out) (cell_of_row _ _ _ _ _ _ g6.out) (AT.out.below b6.out) (S5.out.below b6.out))
    have q1 : (N2 : Int).tdiv 2 = ((N2 / 2 : Nat) : Int) := by rw [Int.tdiv_eq_ediv_of_nonneg (by omega)]; rfl
    have q2 : (N2 : Int).tmod 2 = ((N2 % 2 : Nat) : Int) := by rw [Int.tmod_eq_emod_of_nonneg (by omega)]; rfl
    go_wp2_with fail
    refine CC.out.mono ?_
    rintro e w7 ⟨v7, rfl, hn7⟩
    have L7 := keep hn7.len
    obtain ⟨a7, k7, rfl, hs7, _⟩ := hn7.src
    have S7 := keep hs7
    have I7 := keep (in5_own hn7.1)
    have b7 := keep (b6.out.trans (hn7.2.mono b6.out.size))
    have D7 := keep (D5.out.below b7.out)
    clear hn7 hs7 CC hW6
    go_wp2_with fail
    refine (RT2.out _ D7.out).mono ?_
    rintro e w8 ⟨rfl, hd8, h58, hk8⟩
    have D8 := keep hd8
    have K8 := keep hk8
    have V8 := keep h58
    clear h58
    clear hd8 hk8 RT2
    have cv2 := conv_str S3 S3.length rfl w8
    obtain ⟨kV, hkV⟩ : ∃ kV, grownCap w8 S3.length 0 5 = kV := ⟨_, rfl⟩
    have S9 : Hid (Src (Lib.bytesWorld w8 5 ⟨S3.toArray⟩) (some ⟨w8.heap.size, 0, none⟩) S3.length kV S3) := by rw [← hkV]; exact Src.converted w8 S3 S3.length rfl
    have b9 := keep (below_bytesWorld w8 ⟨S3.toArray⟩)
    have I9 := keep (in5_conv w8 ⟨S3.toArray⟩)
    rw [hkV] at cv2
    obtain ⟨W9, hW9⟩ : ∃ W9, Lib.bytesWorld w8 5 ⟨S3.toArray⟩ = W9 := ⟨_, rfl⟩
    rw [hW9] at cv2 S9 b9 I9
    clear hkV hW9
    have KA : Hid (Kept (· = r) W1 W9) := ((((K2.out.trans K3.out).trans K4.out).trans (Kept.of_below b5.out)).trans (Kept.of_below b7.out)).trans (K8.out.trans (Kept.of_below b9.out))
    have G9 : Hid (W9.heap[w.heap.size]? = some (.cells #[.slice none 0 0, .int .i64 0, .bool false, .slice none 0 0] 37)) := (KA.out.block _ (by rw [s1.out]; omega) (fun e => RW.out e.symm)).trans g1.out
    have t0 : W9.cell? ⟨w.heap.size, 0, none⟩ = some (.slice none 0 0) := cell_of_row _ _ _ _ _ _ G9.out
    have t1 : W9.cell? ⟨w.heap.size, 1, none⟩ = some (.int .i64 0) := cell_of_row _ _ _ _ _ _ G9.out
    have t2 : W9.cell? ⟨w.heap.size, 2, none⟩ = some (.bool false) := cell_of_row _ _ _ _ _ _ G9.out
    have t3 : W9.cell? ⟨w.heap.size, 3, none⟩ = some (.slice none 0 0) := cell_of_row _ _ _ _ _ _ G9.out
    have f0 : W9.frozen? ⟨w.heap.size, 0, none⟩ = false := by simp [World.frozen?, G9.out]
    have f1 : W9.frozen? ⟨w.heap.size, 1, none⟩ = false := by simp [World.frozen?, G9.out]
    have f2 : W9.frozen? ⟨w.heap.size, 2, none⟩ = false := by simp [World.frozen?, G9.out]
    have f3 : W9.frozen? ⟨w.heap.size, 3, none⟩ = false := by simp [World.frozen?, G9.out]
    obtain ⟨kn, hkn⟩ : ∃ kn, A + S1.length = kn := ⟨_, rfl⟩
    rw [hkn] at S7 L7 ⊢
    clear hkn
    clear q1 q2
    have X1 : Hid ((N2 : Int) / 2 = ((N2 / 2 : Nat) : Int)) := by show _ = _; omega
    have X2 : Hid (((N2 : Int) % 2 == 1) = decide (N2 % 2 = 1)) := by
      show _ = _
      cases h : decide (N2 % 2 = 1) with
      | true => have := of_decide_eq_true h; simp; omega
      | false => have := of_decide_eq_false h; simp; omega
    have FE : Hid (Bq.rdE ahead rest = ⟨ahead.take A ++ S1, (N2 : Int) / 2, ((N2 : Int) % 2 == 1), S3⟩) := by show _ = _; first | rw [EE.out, TM2.out, X1.out, X2.out] | rw [EE.out, X1.out, X2.out]
    have V7 := keep (src_turn (D7.out.src K8.out S7.out) (I7.out.turn (D7.out.turn K8.out)) (T5.of_below b9.out))
    have J7 := keep ((I7.out.turn (D7.out.turn K8.out)).turn (T5.of_below b9.out))
    have D9 := keep (D8.out.below b9.out)
    go_wp2
    obtain ⟨x1, hx1⟩ : ∃ x1, (N2 : Int) / 2 = x1 := ⟨_, rfl⟩
    obtain ⟨x2, hx2⟩ : ∃ x2, ((N2 : Int) % 2 == 1) = x2 := ⟨_, rfl⟩
    rw [hx1, hx2] at FE
    rw [hx1, hx2]
    clear hx1 hx2 cv1 cv2
    have KF : Hid (Kept (· = w.heap.size) W9 ((((W9.setCell ⟨w.heap.size, 0, none⟩ (.slice a7 kn k7)).setCell ⟨w.heap.size, 1, none⟩ (.int .i64 x1)).setCell ⟨w.heap.size, 2, none⟩ (.bool x2)).setCell ⟨w.heap.size, 3, none⟩ (.slice (some ⟨w8.heap.size, 0, none⟩) S3.length kV))) :=
      Kept.setCell (p := ⟨w.heap.size, 3, none⟩) (Kept.setCell (p := ⟨w.heap.size, 2, none⟩) (Kept.setCell (p := ⟨w.heap.size, 1, none⟩) (Kept.setCell (p := ⟨w.heap.size, 0, none⟩) (Kept.refl (· = w.heap.size) W9) (.inl rfl) _) (.inl rfl) _) (.inl rfl) _) (.inl rfl) _
    have T9 := keep (T5.of_kept G9.out (by decide) KF.out)
    refine ⟨rfl, .agg #[.slice a7 kn k7, .int .i64 x1, .bool x2, .slice (some ⟨w8.heap.size, 0, none⟩) S3.length kV], ?_, ⟨a7, k7, some ⟨w8.heap.size, 0, none⟩, kV, ⟨ahead.take A ++ S1, x1, x2, S3⟩⟩, ?_, FE.out.symm, ⟨⟨?_, ?_⟩, ?_, ?_⟩, ?_, ?_, ?_⟩
    · have r0 : (W9.setCell ⟨w.heap.size, 0, none⟩ (.slice a7 kn k7)).cell? ⟨w.heap.size, 0, none⟩ = some (.slice a7 kn k7) := World.cell?_setCell_same' _ _ _ (by simp [go_sem, t0])
      have r1 : ((W9.setCell ⟨w.heap.size, 0, none⟩ (.slice a7 kn k7)).setCell ⟨w.heap.size, 1, none⟩ (.int .i64 x1)).cell? ⟨w.heap.size, 1, none⟩ = some (.int .i64 x1) := World.cell?_setCell_same' _ _ _ (by simp [go_sem, t1])
      have r2 : (((W9.setCell ⟨w.heap.size, 0, none⟩ (.slice a7 kn k7)).setCell ⟨w.heap.size, 1, none⟩ (.int .i64 x1)).setCell ⟨w.heap.size, 2, none⟩ (.bool x2)).cell? ⟨w.heap.size, 2, none⟩ = some (.bool x2) := World.cell?_setCell_same' _ _ _ (by simp [go_sem, t2])
      have r3 : ((((W9.setCell ⟨w.heap.size, 0, none⟩ (.slice a7 kn k7)).setCell ⟨w.heap.size, 1, none⟩ (.int .i64 x1)).setCell ⟨w.heap.size, 2, none⟩ (.bool x2)).setCell ⟨w.heap.size, 3, none⟩ (.slice (some ⟨w8.heap.size, 0, none⟩) S3.length kV)).cell? ⟨w.heap.size, 3, none⟩ = some (.slice (some ⟨w8.heap.size, 0, none⟩) S3.length kV) := World.cell?_setCell_same' _ _ _ (by simp [go_sem, t3])
      simp [results, Tryz.f98, go_sem, loadCells, loadCellsFrom, r0, r1, r2, r3]
    · unfold ev
      simp only
      rw [L7.out]
    · show Src _ a7 (ahead.take A ++ S1).length k7 (ahead.take A ++ S1)
      rw [L7.out]
      exact src_turn V7.out J7.out T9.out
    · exact src_turn S9.out I9.out T9.out
    · exact J7.out.turn T9.out
    · exact I9.out.turn T9.out
    · rw [ER.out]
      obtain ⟨ra, rc, h1, h2⟩ := D9.out
      exact ⟨ra, rc, (KF.out.block r (Array.getElem?_eq_some_iff.1 h1).1 RW.out).trans h1, src_kept' G9.out no_byte4 KF.out h2⟩
    · exact (V8.out.turn (Kept.of_below (U := fun _ => False) b9.out) (fun h => h) (T5.of_below b9.out) D8.out.lt).turn KF.out RW.out T9.out D9.out.lt
    · have k1 := (Kept.of_below (U := (· = r)) b1.out).trans KA.out
      exact Kept.setCell (p := ⟨w.heap.size, 3, none⟩) (Kept.setCell (p := ⟨w.heap.size, 2, none⟩) (Kept.setCell (p := ⟨w.heap.size, 1, none⟩) (Kept.setCell (p := ⟨w.heap.size, 0, none⟩) k1 (.inr (Nat.le_refl _)) _) (.inr (Nat.le_refl _)) _) (.inr (Nat.le_refl _)) _) (.inr (Nat.le_refl _)) _
  · have TM2 : Hid (ahead.take N0 = ahead.take N0) := by
      have := TM.out
      rwa [if_neg hNA] at this
    have hTA : N0 ≤ A := by omega
    have i1 : (0 : Int) ≤ (N0 : Int) := by omega
    have i2 : (N0 : Int) ≤ (A : Int) := by omega
    have i3 : (N0 : Int) ≤ (ac : Int) := by omega
    go_wp2_with fail
    refine (RT1.out _ D2.out).mono ?_
    rintro e w3 ⟨rfl, hd3, h53, hk3⟩
    have D3 := keep hd3
    have K3 := keep hk3
    have A3 := keep (D2.out.src hk3 A2.out)
    clear hd3 hk3 h53 RT1
    go_wp2_with fail
    refine (RN2.out _ D3.out).mono ?_
    rintro e w4 ⟨rfl, hd4, h54, hk4⟩
    have D4 := keep hd4
    have K4 := keep hk4
    have A4 := keep (D3.out.src hk4 A3.out)
    clear hd4 hk4 h54 RN2
    have cv1 := conv_str S1 S1.length rfl w4
    obtain ⟨kS, hkS⟩ : ∃ kS, grownCap w4 S1.length 0 5 = kS := ⟨_, rfl⟩
    have S5 : Hid (Src (Lib.bytesWorld w4 5 ⟨S1.toArray⟩) (some ⟨w4.heap.size, 0, none⟩) S1.length kS S1) := by rw [← hkS]; exact Src.converted w4 S1 S1.length rfl
    have b5 := keep (below_bytesWorld w4 ⟨S1.toArray⟩)
    have z5 : Hid ((Lib.bytesWorld w4 5 ⟨S1.toArray⟩).heap.size = w4.heap.size + 1) := Lib.bytesWorld_size _ _ _
    rw [hkS] at cv1
    obtain ⟨W5, hW5⟩ : ∃ W5, Lib.bytesWorld w4 5 ⟨S1.toArray⟩ = W5 := ⟨_, rfl⟩
    rw [hW5] at cv1 S5 b5 z5
    clear hkS hW5
    have A5 := keep (A4.out.below b5.out)
    have AT := keep (A5.out.head N0 hTA)
    have D5 := keep (D4.out.below b5.out)
    obtain ⟨W6, hW6⟩ : ∃ W6, W5.alloc (.cells #[.slice ap N0 ac, .slice (some ⟨w4.heap.size, 0, none⟩) S1.length kS] 24) = W6 := ⟨_, rfl⟩
    have b6 : Hid (Below W5.heap.size W5 W6) := by rw [← hW6]; exact (Below.refl _ _).alloc (Nat.le_refl _) _
    have g6 : Hid (W6.heap[W5.heap.size]? = some (.cells #[.slice ap N0 ac, .slice (some ⟨w4.heap.size, 0, none⟩) S1.length kS] 24)) := by rw [← hW6]; exact heap_alloc_new W5 _
    have CC := keep (concat_two W5.heap.size ap N0 ac (ahead.take N0) (some ⟨w4.heap.size, 0, none⟩) S1.length kS S1 W6 (by omega) (cell_of_row _ _ _ _ _ _ g6.out) (cell_of_row _ _ _ _ _ _ g6.out) (AT.out.below b6.out) (S5.out.below b6.out))
    have q1 : (N2 : Int).tdiv 2 = ((N2 / 2 : Nat) : Int) := by rw [Int.tdiv_eq_ediv_of_nonneg (by omega)]; rfl
    have q2 : (N2 : Int).tmod 2 = ((N2 % 2 : Nat) : Int) := by rw [Int.tmod_eq_emod_of_nonneg (by omega)]; rfl
    go_wp2_with fail
    refine CC.out.mono ?_
    rintro e w7 ⟨v7, rfl, hn7⟩
    have L7 := keep hn7.len
    obtain ⟨a7, k7, rfl, hs7, _⟩ := hn7.src
    have S7 := keep hs7
    have I7 := keep (in5_own hn7.1)
    have b7 := keep (b6.out.trans (hn7.2.mono b6.out.size))
    have D7 := keep (D5.out.below b7.out)
    clear hn7 hs7 CC hW6
    go_wp2_with fail
    refine (RT2.out _ D7.out).mono ?_
    rintro e w8 ⟨rfl, hd8, h58, hk8⟩
    have D8 := keep hd8
    have K8 := keep hk8
    have V8 := keep h58
    clear h58
    clear hd8 hk8 RT2
    have cv2 := conv_str S3 S3.length rfl w8
    obtain ⟨kV, hkV⟩ : ∃ kV, grownCap w8 S3.length 0 5 = kV := ⟨_, rfl⟩
    have S9 : Hid (Src (Lib.bytesWorld w8 5 ⟨S3.toArray⟩) (some ⟨w8.heap.size, 0, none⟩) S3.length kV S3) := by rw [← hkV]; exact Src.converted w8 S3 S3.length rfl
    have b9 := keep (below_bytesWorld w8 ⟨S3.toArray⟩)
    have I9 := keep (in5_conv w8 ⟨S3.toArray⟩)
    rw [hkV] at cv2
    obtain ⟨W9, hW9⟩ : ∃ W9, Lib.bytesWorld w8 5 ⟨S3.toArray⟩ = W9 := ⟨_, rfl⟩
    rw [hW9] at cv2 S9 b9 I9
    clear hkV hW9
    have KA : Hid (Kept (· = r) W1 W9) := ((((K2.out.trans K3.out).trans K4.out).trans (Kept.of_below b5.out)).trans (Kept.of_below b7.out)).trans (K8.out.trans (Kept.of_below b9.out))
    have G9 : Hid (W9.heap[w.heap.size]? = some (.cells #[.slice none 0 0, .int .i64 0, .bool false, .slice none 0 0] 37)) := (KA.out.block _ (by rw [s1.out]; omega) (fun e => RW.out e.symm)).trans g1.out
    have t0 : W9.cell? ⟨w.heap.size, 0, none⟩ = some (.slice none 0 0) := cell_of_row _ _ _ _ _ _ G9.out
    have t1 : W9.cell? ⟨w.heap.size, 1, none⟩ = some (.int .i64 0) := cell_of_row _ _ _ _ _ _ G9.out
    have t2 : W9.cell? ⟨w.heap.size, 2, none⟩ = some (.bool false) := cell_of_row _ _ _ _ _ _ G9.out
    have t3 : W9.cell? ⟨w.heap.size, 3, none⟩ = some (.slice none 0 0) := cell_of_row _ _ _ _ _ _ G9.out
    have f0 : W9.frozen? ⟨w.heap.size, 0, none⟩ = false := by simp [World.frozen?, G9.out]
    have f1 : W9.frozen? ⟨w.heap.size, 1, none⟩ = false := by simp [World.frozen?, G9.out]
    have f2 : W9.frozen? ⟨w.heap.size, 2, none⟩ = false := by simp [World.frozen?, G9.out]
    have f3 : W9.frozen? ⟨w.heap.size, 3, none⟩ = false := by simp [World.frozen?, G9.out]
    obtain ⟨kn, hkn⟩ : ∃ kn, N0 + S1.length = kn := ⟨_, rfl⟩
    rw [hkn] at S7 L7 ⊢
    clear hkn
    clear q1 q2
    have X1 : Hid ((N2 : Int) / 2 = ((N2 / 2 : Nat) : Int)) := by show _ = _; omega
    have X2 : Hid (((N2 : Int) % 2 == 1) = decide (N2 % 2 = 1)) := by
      show _ = _
      cases h : decide (N2 % 2 = 1) with
      | true => have := of_decide_eq_true h; simp; omega
      | false => have := of_decide_eq_false h; simp; omega
    have FE : Hid (Bq.rdE ahead rest = ⟨ahead.take N0 ++ S1, (N2 : Int) / 2, ((N2 : Int) % 2 == 1), S3⟩) := by show _ = _; first | rw [EE.out, TM2.out, X1.out, X2.out] | rw [EE.out, X1.out, X2.out]
    have V7 := keep (src_turn (D7.out.src K8.out S7.out) (I7.out.turn (D7.out.turn K8.out)) (T5.of_below b9.out))
    have J7 := keep ((I7.out.turn (D7.out.turn K8.out)).turn (T5.of_below b9.out))
    have D9 := keep (D8.out.below b9.out)
    go_wp2
    obtain ⟨x1, hx1⟩ : ∃ x1, (N2 : Int) / 2 = x1 := ⟨_, rfl⟩
    obtain ⟨x2, hx2⟩ : ∃ x2, ((N2 : Int) % 2 == 1) = x2 := ⟨_, rfl⟩
    rw [hx1, hx2] at FE
    rw [hx1, hx2]
    clear hx1 hx2 cv1 cv2
    have KF : Hid (Kept (· = w.heap.size) W9 ((((W9.setCell ⟨w.heap.size, 0, none⟩ (.slice a7 kn k7)).setCell ⟨w.heap.size, 1, none⟩ (.int .i64 x1)).setCell ⟨w.heap.size, 2, none⟩ (.bool x2)).setCell ⟨w.heap.size, 3, none⟩ (.slice (some ⟨w8.heap.size, 0, none⟩) S3.length kV))) :=
      Kept.setCell (p := ⟨w.heap.size, 3, none⟩) (Kept.setCell (p := ⟨w.heap.size, 2, none⟩) (Kept.setCell (p := ⟨w.heap.size, 1, none⟩) (Kept.setCell (p := ⟨w.heap.size, 0, none⟩) (Kept.refl (· = w.heap.size) W9) (.inl rfl) _) (.inl rfl) _) (.inl rfl) _) (.inl rfl) _
    have T9 := keep (T5.of_kept G9.out (by decide) KF.out)
    refine ⟨rfl, .agg #[.slice a7 kn k7, .int .i64 x1, .bool x2, .slice (some ⟨w8.heap.size, 0, none⟩) S3.length kV], ?_, ⟨a7, k7, some ⟨w8.heap.size, 0, none⟩, kV, ⟨ahead.take N0 ++ S1, x1, x2, S3⟩⟩, ?_, FE.out.symm, ⟨⟨?_, ?_⟩, ?_, ?_⟩, ?_, ?_, ?_⟩
    · have r0 : (W9.setCell ⟨w.heap.size, 0, none⟩ (.slice a7 kn k7)).cell? ⟨w.heap.size, 0, none⟩ = some (.slice a7 kn k7) := World.cell?_setCell_same' _ _ _ (by simp [go_sem, t0])
      have r1 : ((W9.setCell ⟨w.heap.size, 0, none⟩ (.slice a7 kn k7)).setCell ⟨w.heap.size, 1, none⟩ (.int .i64 x1)).cell? ⟨w.heap.size, 1, none⟩ = some (.int .i64 x1) := World.cell?_setCell_same' _ _ _ (by simp [go_sem, t1])
      have r2 : (((W9.setCell ⟨w.heap.size, 0, none⟩ (.slice a7 kn k7)).setCell ⟨w.heap.size, 1, none⟩ (.int .i64 x1)).setCell ⟨w.heap.size, 2, none⟩ (.bool x2)).cell? ⟨w.heap.size, 2, none⟩ = some (.bool x2) := World.cell?_setCell_same' _ _ _ (by simp [go_sem, t2])
      have r3 : ((((W9.setCell ⟨w.heap.size, 0, none⟩ (.slice a7 kn k7)).setCell ⟨w.heap.size, 1, none⟩ (.int .i64 x1)).setCell ⟨w.heap.size, 2, none⟩ (.bool x2)).setCell ⟨w.heap.size, 3, none⟩ (.slice (some ⟨w8.heap.size, 0, none⟩) S3.length kV)).cell? ⟨w.heap.size, 3, none⟩ = some (.slice (some ⟨w8.heap.size, 0, none⟩) S3.length kV) := World.cell?_setCell_same' _ _ _ (by simp [go_sem, t3])
      simp [results, Tryz.f98, go_sem, loadCells, loadCellsFrom, r0, r1, r2, r3]
    · unfold ev
      simp only
      rw [L7.out]
    · show Src _ a7 (ahead.take N0 ++ S1).length k7 (ahead.take N0 ++ S1)
      rw [L7.out]
      exact src_turn V7.out J7.out T9.out
    · exact src_turn S9.out I9.out T9.out
    · exact J7.out.turn T9.out
    · exact I9.out.turn T9.out
    · rw [ER.out]
      obtain ⟨ra, rc, h1, h2⟩ := D9.out
      exact ⟨ra, rc, (KF.out.block r (Array.getElem?_eq_some_iff.1 h1).1 RW.out).trans h1, src_kept' G9.out no_byte4 KF.out h2⟩
    · exact (V8.out.turn (Kept.of_below (U := fun _ => False) b9.out) (fun h => h) (T5.of_below b9.out) D8.out.lt).turn KF.out RW.out T9.out D9.out.lt
    · have k1 := (Kept.of_below (U := (· = r)) b1.out).trans KA.out
      exact Kept.setCell (p := ⟨w.heap.size, 3, none⟩) (Kept.setCell (p := ⟨w.heap.size, 2, none⟩) (Kept.setCell (p := ⟨w.heap.size, 1, none⟩) (Kept.setCell (p := ⟨w.heap.size, 0, none⟩) k1 (.inr (Nat.le_refl _)) _) (.inr (Nat.le_refl _)) _) (.inr (Nat.le_refl _)) _) (.inr (Nat.le_refl _)) _
end Go.Proofs.YtjblicgbdecbcaaGreat
