/- The walk of bloom's Build. -/
import Derived.Test.YtjblicgbdecbcaaGreatZB3j
namespace Go.Proofs.YtjblicgbdecbcaaGreat
open Go.RowKit Go.Shelf
attribute [local go_sem] Oper.semAt_some

/-- These places are marked. -/
def marksL (key : List UInt8) (b : Nat) (f : List UInt8) (pre : List Nat) : List UInt8 := pre.foldl (fun f i => Bl.mark f (Bl.place key b i)) f
theorem marksL_snoc (key : List UInt8) (b : Nat) (f : List UInt8) (pre : List Nat) (x : Nat) : marksL key b f (pre ++ [x]) = Bl.mark (marksL key b f pre) (Bl.place key b x) := by simp [marksL]
theorem marksL_range (key : List UInt8) (b : Nat) (f : List UInt8) (n : Nat) : marksL key b f (List.range n) = Bl.marks key b f n := by
  induction n with
  | zero => rfl
  | succ n ih => rw [List.range_succ, marksL_snoc, ih]; rfl
theorem marksL_length (key : List UInt8) (b : Nat) (f : List UInt8) (pre : List Nat) : (marksL key b f pre).length = f.length := by
  induction pre generalizing f with
  | nil => rfl
  | cons x pre ih => simp only [marksL, List.foldl_cons] at ih ⊢; rw [ih, Bl.mark_length]
theorem bv_zeros (n : Nat) : bv (Bl.zeros n) = List.replicate n (.int .u8 0) := by simp [bv, Bl.zeros]
/-- How the program sets a bit. -/
theorem bit_set (y : UInt8) (r : Nat) (h : r < 8) : bits .or .u8 (y.toNat : Int) (2 ^ r) = ((Bl.setB y r).toNat : Int) := by
  have e : (2 ^ r : Int) = ((2 ^ r : Nat) : Int) := by rw [Int.natCast_pow]; rfl
  have hlt : (2 : Nat) ^ r < 2 ^ 8 := Nat.pow_lt_pow_right (by decide) h
  rw [e, u8_or_nat _ _ y.toNat_lt hlt, Bl.setB_toNat y h]

/-- The filter, its box, the marks of the loops so far. -/
structure Filled (w : World) (N bx : Nat) (f : List UInt8) (Ds : List Nat) (W : World) : Prop where
  row : W.ownsRow w.heap.size 5 1 (.slice (some ⟨w.heap.size, 0, none⟩) N N) N (bv f)
  box : Boxed W bx 24 (.slice (some ⟨w.heap.size, 0, none⟩) N N)
  bel : Below w.heap.size w W
  marks : Marks w.heap.size W Ds

set_option maxHeartbeats 2000000 in
set_option maxRecDepth 100000 in
theorem bloomB_any (ao : Option Addr) (m c : Nat) (es : List ByteE) (w : World) (hm : m ≤ 8796093022208) (hes : ∀ e ∈ es, e.bytes.length + 1 ≤ 140737488355328) (hs : RSrc byteKind w ao m c es) :
    Calls Tryz.prog 28 #[.slice ao m c] w fun e w' => ∃ v, e = .returned v ∧ New w w' v (Bl.sizeOf m) (Bl.build (es.map (·.bytes))) := by
  obtain ⟨i0, hi, hz0, hz1, hz2⟩ := info_parts info5
  have hel := hs.len
  have HS := keep hs
  have HE := keep hes
  clear hs hes
  obtain ⟨N, hN⟩ : ∃ N, Bl.sizeOf m = N := ⟨_, rfl⟩
  have hN8 : 8 ≤ N := by rw [← hN]; exact Bl.sizeOf_pos m
  have hNm : N ≤ 140737488355328 := by rw [← hN]; unfold Bl.sizeOf; omega
  have BF := keep (bytesFor_any m w (by omega))
  have hmx : (if (((10 * m + 7) / 8 : Nat) : Int) < 8 then 8 else (((10 * m + 7) / 8 : Nat) : Int)) = (N : Int) := by rw [← hN]; unfold Bl.sizeOf; split <;> omega
  obtain ⟨X, hX⟩ : ∃ X, (10 * m + 7) / 8 = X := ⟨_, rfl⟩
  rw [hX] at BF hmx
  clear hX
  have HN := keep hN
  clear hN
  rw [HN.out]
  obtain ⟨ks, hks0⟩ : ∃ ks, es.map (·.bytes) = ks := ⟨_, rfl⟩
  rw [hks0]
  have HKS := keep hks0
  clear hks0
  rw [← callsIn_wide (n := 8)]
  refine callsIn_of_wp_marks Tryz.func28 rfl trivial ?_ rfl
  simp only [Tryz.ntmps28, List.size_toArray, List.length_cons, List.length_nil, Nat.reduceAdd, Nat.reduceSub, Array.replicate_succ, Array.replicate_zero, List.push_toArray, List.append_toArray, List.nil_append, List.cons_append]
  rw [wpIn_wide]
  go_wp2_with (first
    | (go_at_call 60; refine BF.out.mono ?_; rintro e w1 ⟨rfl, hw1⟩; have hw2 := hw1.symm; subst hw2)
    | (at_make; refine wpList_make_full _ rfl _ _ 24 rfl w.heap.size 5 i0 (.int .u8 0) 1 Tryz.underlying24 hi hz0 hz1 .i64 .i64 _ _ N rfl rfl rfl rfl (by rw [hz2]; omega) (by unfold maxLen; omega) (Nat.le_refl _) ?_; intro w1 hown hgrow; have b1 := keep ((Below.refl w.heap.size w).grown hgrow (Nat.le_refl _) (fun k h => by cases h)); have o1 := keep hown; clear hown hgrow))
  have hkl : ks.length = m := by rw [← HKS.out, List.length_map, hel]
  have F0 : Hid (Filled w N w1.heap.size (Bl.fill (Bl.zeros N) (ks.take 0)) [] (w1.alloc (.cells #[.slice (some ⟨w.heap.size, 0, none⟩) N N] 24))) := by
    refine ⟨?_, Boxed.new _ _ _, b1.out.alloc b1.out.size _, Marks.nil _ _⟩
    have := o1.out.alloc (.cells #[.slice (some ⟨w.heap.size, 0, none⟩) N N] 24)
    rw [show (Value.int .u8 0).cells = #[.int .u8 0] from rfl, toList_madeCells_one, Nat.mul_one] at this
    rw [List.take_zero]
    show World.ownsRow _ _ _ _ _ _ (bv (Bl.zeros N))
    rw [bv_zeros]
    exact this
  obtain ⟨bx, hbx⟩ : ∃ bx, w1.heap.size = bx := ⟨_, rfl⟩
  rw [hbx] at F0 ⊢
  obtain ⟨W0, hW0⟩ : ∃ W0, w1.alloc (.cells #[.slice (some ⟨w.heap.size, 0, none⟩) N N] 24) = W0 := ⟨_, rfl⟩
  rw [hW0] at F0 ⊢
  clear hW0 o1 b1 hbx
  rw [← wpIn_wide (n := 8)]
  refine wpIn_loop (fun a W => ∃ (k : Nat) (Ds : List Nat) (v5 v15 v16 v17 v18 v19 v20 v21 v33 : Value), k ≤ m ∧ Hid (Filled w N bx (Bl.fill (Bl.zeros N) (ks.take k)) Ds W) ∧
      a = { tmps := #[.slice ao m c, undef, .slice none 0 0, .pointer (some ⟨bx, 0, none⟩), undef, v5, undef, .slice ao m c, .int .i64 (m : Int), .int .i64 (X : Int), .int .i64 (N : Int), .slice (some ⟨w.heap.size, 0, none⟩) N N, .slice ao m c, .int .i64 (m : Int), .int .i64 (k : Int), v15, v16, v17, v18, v19, v20, v21, undef, undef, undef, undef, undef, undef, undef, undef, undef, undef, undef, v33, undef], defers := Ds.map markOf })
    (fun a _ => m - (intOf (a.tmps.getD 14 undef)).toNat) ⟨0, [], _, _, _, _, _, _, _, _, _, Nat.zero_le _, F0, rfl⟩ ?_
  clear F0
  rintro a W ⟨k, Ds, v5, v15, v16, v17, v18, v19, v20, v21, v33, hk, hF, rfl⟩
  by_cases hlt : k < m
  · obtain ⟨b, off, rfl, hbw, hby⟩ := HS.out.form byteKind_ok (by omega)
    obtain ⟨e, he⟩ : ∃ e, es[k]? = some e := ⟨es[k], List.getElem?_eq_getElem (by omega)⟩
    have hcell : W.cell? ⟨b, off + k, none⟩ = some (.slice e.ptr e.bytes.length e.cap) := by
      rw [hF.out.bel.cell (p := ⟨b, off + k, none⟩) hbw]
      have := hby k e he 0 _ rfl
      simpa [byteKind] using this
    have hel2 := HE.out e (List.mem_of_getElem? he)
    have hbox := hF.out.box.cell
    have hlt1 : (k : Int) < (m : Int) := by omega
    have HSK : Hid (Src W e.ptr e.bytes.length e.cap e.bytes) := (HS.out.held e (List.mem_of_getElem? he)).below hF.out.bel
    have hkey : Hid (Bl.fill (Bl.zeros N) (ks.take (k + 1)) = Bl.marks e.bytes (8 * N) (Bl.fill (Bl.zeros N) (ks.take k)) 6) := by
      show _ = _
      have h1 : ks[k]? = some e.bytes := by rw [← HKS.out, List.getElem?_map, he]; rfl
      obtain ⟨h2, h3⟩ := List.getElem?_eq_some_iff.1 h1
      rw [List.take_succ_eq_append_getElem h2, h3, Bl.fill_snoc, Bl.zeros_length]
    have HFL : Hid ((Bl.fill (Bl.zeros N) (ks.take k)).length = N) := by show _ = _; rw [Bl.fill_length, Bl.zeros_length]
    obtain ⟨f, hf⟩ : ∃ f, Bl.fill (Bl.zeros N) (ks.take k) = f := ⟨_, rfl⟩
    rw [hf] at hF hkey HFL
    clear hby he hf
    obtain ⟨ptr, cap, key⟩ := e
    simp only at hcell HSK hkey hel2
    obtain ⟨L, hL⟩ : ∃ L, key.length = L := ⟨_, rfl⟩
    rw [hL] at hcell HSK hel2
    clear hL
    gi_wp2_with fail
    refine ⟨trivial, ?_⟩
    refine (callsIn_wide.2 (bitsOf_any (some ⟨w.heap.size, 0, none⟩) N N W hNm)).mono ?_
    rintro e w2 ⟨rfl, hw2⟩
    have hw3 := hw2.symm
    subst hw3
    gi_wp2_with fail
    refine ⟨trivial, ?_⟩
    refine (places_in Fence.wide 7 trivial rfl ptr L cap _ W).mono ?_
    rintro e w9 ⟨rfl, hw9⟩
    have b9 : Hid (Below W.heap.size W w9) := by rw [hw9]; exact ((Below.refl _ _).alloc (Nat.le_refl _) _).alloc (by simp) _
    have q1 : Hid (w9.cell? ⟨W.heap.size + 1, 0, none⟩ = some (.int .u64 ((8 * N : Nat) : Int))) := by
      have := heap_alloc_new (W.alloc (.cells #[.slice ptr L cap] 24)) (.cells #[.int .u64 ((8 * N : Nat) : Int)] 81)
      rw [World.size_alloc] at this
      rw [hw9]
      exact cell_of_row _ _ _ _ _ _ this
    have q0 : Hid (w9.cell? ⟨W.heap.size, 0, none⟩ = some (.slice ptr L cap)) := by
      rw [hw9]
      exact cell_of_row _ _ _ _ _ _ ((Below.heap_alloc _ _ _ (by simp)).trans (heap_alloc_new W _))
    clear hw9
    have hbne : ¬ bx = w.heap.size := fun e => by
      obtain ⟨cur, h1⟩ := own_tag hF.out.row rfl
      have h2 : W.heap[w.heap.size]? = some (.cells cur 5 (0, 0)) := h1
      have h3 : W.heap[bx]? = _ := hF.out.box
      rw [e, h2] at h3
      cases h3
    have hgW : w.heap.size < W.heap.size := own_size hF.out.row rfl
    have o9 : Hid (w9.ownsRow w.heap.size 5 1 (.slice (some ⟨w.heap.size, 0, none⟩) N N) N (bv f)) := own_block hF.out.row (fun g hg => b9.out.block g (own_size hF.out.row hg))
    gi_wp2_with fail
    refine wpIn_rangeFunc_ownG (α := Nat) (F := Fence.wide) rfl (by decide) (gf := 81) (lb := #[.pointer (some ⟨W.heap.size + 1, 0, none⟩), .pointer (some ⟨W.heap.size, 0, none⟩)]) rfl trivial (enters_of Tryz.func81 (by kernel_rfl) rfl)
      (places_stops 7 (by decide) (W.heap.size + 1) W.heap.size (8 * N) (by omega) (by omega) ptr L cap key hel2 w9 q1.out q0.out (HSK.out.below b9.out)) KpB.t KpB.b (Below.refl _ _) (fun _ => rfl)
      (fun pre W' => Kept (fun g => g = w.heap.size) w9 W' ∧ W'.ownsRow w.heap.size 5 1 (.slice (some ⟨w.heap.size, 0, none⟩) N N) N (bv (marksL key (8 * N) f pre)))
      (fun _ _ _ => False)
      (fun pre W1 W2 row h hg hr => ⟨h.1.grown hg (fun k e => .inr (hr k e).1), own_block h.2 (fun g hgg => hg.block g (own_size h.2 hgg) (fun e => by cases hgg; have h3 : w9.heap.size ≤ w.heap.size := (hr _ e.symm).1; have := b9.out.size; omega))⟩)
      (fun _ _ _ _ _ h _ _ => h)
      ⟨Kept.refl _ _, o9.out⟩
      (fun x => { tmps := #[.slice (some ⟨b, off, none⟩) m c, undef, .slice none 0 0, .pointer (some ⟨bx, 0, none⟩), undef, .slice ptr L cap, .int .u64 (Bl.place key (8 * N) x : Int), .slice (some ⟨b, off, none⟩) m c, .int .i64 (m : Int), .int .i64 (X : Int), .int .i64 (N : Int), .slice (some ⟨w.heap.size, 0, none⟩) N N, .slice (some ⟨b, off, none⟩) m c, .int .i64 (m : Int), .int .i64 (k : Int), .bool true, .pointer (some ⟨b, off + k, none⟩), .slice ptr L cap, .slice ptr L cap, .slice (some ⟨w.heap.size, 0, none⟩) N N, .int .u64 ((8 * N : Nat) : Int), .func (.func 81) #[] #[.pointer (some ⟨W.heap.size + 1, 0, none⟩), .pointer (some ⟨W.heap.size, 0, none⟩)], .int .u64 (Bl.place key (8 * N) x : Int), undef, undef, undef, undef, undef, undef, undef, undef, undef, undef, v33, undef], defers := [] }) ?assign ?body ?done ?stop
    case assign =>
      intro l x W K hK
      gi_wp2
      exact hK
    case body =>
      rintro l pre x W1 ⟨hKp, hO⟩ _
      have hpl := Bl.place_lt key (bits := 8 * N) (by omega) x
      have hsn := marksL_snoc key (8 * N) f pre x
      obtain ⟨p, hp⟩ : ∃ p, Bl.place key (8 * N) x = p := ⟨_, rfl⟩
      have hfl : (marksL key (8 * N) f pre).length = N := by rw [marksL_length, HFL.out]
      obtain ⟨fp, hfp⟩ : ∃ fp, marksL key (8 * N) f pre = fp := ⟨_, rfl⟩
      rw [hp] at hpl hsn ⊢
      rw [hfp] at hsn hO hfl
      clear hp hfp
      obtain ⟨Q, hQ⟩ : ∃ Q, p / 8 = Q := ⟨_, rfl⟩
      obtain ⟨R, hR⟩ : ∃ R, p % 8 = R := ⟨_, rfl⟩
      have hQm : Q < N := by omega
      have hR8 : R < 8 := by omega
      have hQi : (p : Int) / 8 = (Q : Int) := by omega
      have hRi : (p : Int) % 8 = (R : Int) := by omega
      have hc : W1.cell? ⟨w.heap.size, Q, none⟩ = some (.int .u8 ((fn fp Q).toNat : Int)) := by
        have := hO.cells rfl Q _ (bv_at fp Q (by omega))
        rwa [Addr.add_mid, Nat.zero_add] at this
      have hfz : W1.frozen? ⟨w.heap.size, Q, none⟩ = false := by
        obtain ⟨cur, h1⟩ := own_tag hO rfl
        have h2 : W1.heap[w.heap.size]? = some (.cells cur 5 (0, 0)) := h1
        simp [World.frozen?, h2]
      have hmk : Hid (Bl.mark fp p = fp.set Q (Bl.setB (fn fp Q) R)) := by unfold Bl.mark; rw [hQ, hR]; rfl
      have hcb : W1.cell? ⟨bx, 0, none⟩ = some (.slice (some ⟨w.heap.size, 0, none⟩) N N) := by
        rw [hKp.cell (p := ⟨bx, 0, none⟩) (Nat.lt_of_lt_of_le hF.out.box.lt b9.out.size) hbne]
        exact belowc b9.out hF.out.box.cell
      have hx : bits .or .u8 ((fn fp Q).toNat : Int) (2 ^ R) = ((Bl.setB (fn fp Q) R).toNat : Int) := bit_set _ _ hR8
      have hw2 : IntKind.u8.wrap (2 ^ R) = 2 ^ R := by
        have hlt : (2 : Nat) ^ R < 2 ^ 8 := Nat.pow_lt_pow_right (by decide) hR8
        have e : (2 ^ R : Int) = ((2 ^ R : Nat) : Int) := by rw [Int.natCast_pow]; rfl
        rw [e, IntKind.wrap_u8']
        exact Int.emod_eq_of_lt (Int.natCast_nonneg _) (Int.ofNat_lt.2 hlt)
      rw [hmk.out] at hsn
      have HSN := keep hsn
      have HO := keep hO
      have HK := keep hKp
      clear hQ hR hsn hO hKp hpl hmk
      obtain ⟨y, hy⟩ : ∃ y, fn fp Q = y := ⟨_, rfl⟩
      rw [hy] at hc hx HSN
      clear hy
      have hm1 : (Q : Int) < (N : Int) := by omega
      gi_wp2
      refine ⟨(KeepsOthers.setCell _ _ _).from _, fun v hv => ?_, HK.out.setCell (p := ⟨w.heap.size, Q, none⟩) (.inl rfl) _, ?_⟩
      · rw [World.cell?_of_block (w := W1) (a := ⟨W.heap.size + 1, 0, none⟩) (Below.heap_setCell W1 ⟨w.heap.size, Q, none⟩ _ (W.heap.size + 1) (by show ¬ W.heap.size + 1 = w.heap.size; omega))]
        exact hv
      · rw [HSN.out]
        exact own_turn HO.out hQm _
    case done =>
      rintro D ys W1 hD rfl ⟨hKp, hO⟩ hK
      have hDl : ∀ x ∈ Ds, x < W.heap.size := fun x hx => (Array.getElem?_eq_some_iff.1 (hF.out.marks.each x hx)).1
      have hF1 : Hid (Filled w N bx (Bl.fill (Bl.zeros N) (ks.take (k + 1))) (D :: Ds) W1) := by
        have hb9 := b9.out.size
        have hold : ∀ g, g < W.heap.size → ¬ g = w.heap.size → W1.heap[g]? = W.heap[g]? := fun g h1 h2 => (hKp.block g (by omega) h2).trans (b9.out.block g h1)
        refine ⟨?_, (hold bx hF.out.box.lt hbne).trans hF.out.box, hF.out.bel.trans ((b9.out.mono (Nat.le_of_lt hgW)).trans (hKp.below (by omega) (fun g e => Nat.le_of_eq e.symm))), ⟨List.nodup_cons.2 ⟨fun h => by have := hDl D h; omega, hF.out.marks.nodup⟩, fun x hx => ?_, fun x hx => ?_⟩⟩
        · rw [hkey.out, ← marksL_range]
          exact hO
        · rcases List.mem_cons.1 hx with rfl | hx
          · omega
          · exact hF.out.marks.far x hx
        · rcases List.mem_cons.1 hx with rfl | hx
          · exact hK
          · rw [hold x (hDl x hx) (fun e => ?_)]
            · exact hF.out.marks.each x hx
            · obtain ⟨cur, h1⟩ := own_tag hF.out.row rfl
              have h2 : W.heap[w.heap.size]? = some (.cells cur 5 (0, 0)) := h1
              have h3 := hF.out.marks.each x hx
              rw [e, h2] at h3
              cases h3
      clear hKp hO hK
      gi_wp2
      refine ⟨⟨k + 1, D :: Ds, _, _, _, _, _, _, _, _, _, by omega, hF1, rfl⟩, ?_⟩
      simp [intOf]
      omega
    case stop =>
      rintro D c pre W1 hD _ h hK
      exact h.elim
  · obtain rfl : k = m := by omega
    have hlt1 : ¬ (k : Int) < (k : Int) := by omega
    have hbox := hF.out.box.cell
    rw [List.take_of_length_le (by omega)] at hF
    gi_wp2
    go_wp2
    refine leaves_marks (B := w.heap.size) Ds _ hF.out.marks ?_
    intro W' hs
    refine ⟨_, results_tmp rfl _ _ _, _, rfl, ?_, ?_⟩
    · have h1 := hs.own hF.out.row
      unfold Bl.build
      rw [hkl, HN.out]
      exact h1
    · exact hF.out.bel.trans (hs.below hF.out.bel.size)
end Go.Proofs.YtjblicgbdecbcaaGreat
