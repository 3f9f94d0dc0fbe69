/- The walk of merged. -/
import Derived.Test.YtgdggeacjfhkkaaMc
import Derived.Test.YtgdggeacjfhkkaaMd
namespace Go.Proofs.Ytgdggeacjfhkkaa.Mg
open Go.Proofs.Ytgdggeacjfhkkaa
open Go.Proofs.Ytgdggeacjfhkkaa.Sk (Ent Goes Up)
theorem Two.takeA {f s O A B : List Ent} {e : Ent} (h : Two f s O (e :: A) B) (hf : Up f) (hs : Up s) (hb : ∀ b, B.head? = some b → ahead b e = false) : (O = [] → Two f s (O ++ [e]) A B) ∧ ∀ o, O.getLast? = some o → (ahead o e = true → Two f s (O ++ [e]) A B) ∧ (ahead o e = false → Two f s O A B) := by
  have hl := h.leastA hf hs hb
  refine ⟨fun h0 => h.putA hf hl (fun o ho => by rw [h0] at ho; cases ho), fun o ho => ?_⟩
  have h1 := h.last ho (.inl (List.mem_cons_self ..))
  exact ⟨fun ha => h.putA hf hl (h1.1 ha), fun ha => h.dropA (List.mem_of_getLast? ho) (h1.2 ha)⟩
theorem Two.takeB {f s O A B : List Ent} {e : Ent} (h : Two f s O A (e :: B)) (hf : Up f) (hs : Up s) (hb : ∀ a, A.head? = some a → ahead e a = true) : (O = [] → Two f s (O ++ [e]) A B) ∧ ∀ o, O.getLast? = some o → (ahead o e = true → Two f s (O ++ [e]) A B) ∧ (ahead o e = false → Two f s O A B) := by
  obtain ⟨hl, hl2⟩ := h.leastB hf hs hb
  refine ⟨fun h0 => h.putB hs hl hl2 (fun o ho => by rw [h0] at ho; cases ho), fun o ho => ?_⟩
  have h1 := h.last ho (.inr (List.mem_cons_self ..))
  exact ⟨fun ha => h.putB hs hl hl2 (h1.1 ha), fun ha => h.dropB (List.mem_of_getLast? ho) (h1.2 ha)⟩
end Go.Proofs.Ytgdggeacjfhkkaa.Mg
namespace Go.Proofs.Ytgdggeacjfhkkaa
open Go.RowKit
open Sk (Ent)

theorem RSrc.keptU {α : Type} {k : Kind α} {U : Nat → Prop} {w w' : World} {ao : Option Addr} {n c : Nat} {es : List α} (h : RSrc k w ao n c es) (hk : Kept U w w') (hf : ∀ ad, ao = some ad → ¬ U ad.block) (hh : ∀ e ∈ es, k.held w' e) : RSrc k w' ao n c es :=
  ⟨h.len, h.cap, h.nil, fun ad had j u hu => by
    have h1 := h.cells ad had j u hu
    have hb : (ad.add j).block = ad.block := by first | rfl | (unfold Addr.add; split <;> rfl) | simp [Addr.add]
    rw [World.cell?_of_block (w := w) (hk.block _ (World.block_lt_of_cell? w _ h1) (by rw [hb]; exact hf ad had))]
    exact h1, hh⟩
/-- What is left of one of two rows. -/
structure Live (W3 wr : World) (b b1 b2 : Nat) (n c : Nat) (es : List EV) : Prop where
  at_ : ∃ p, Left wr b p n c ∧ RSrc entKind W3 p n c es ∧ ∀ ad, p = some ad → ad.block ≠ b1 ∧ ad.block ≠ b2
/-- How far two rows have been made one. -/
structure MrgI (W3 : World) (b1 b2 : Nat) (f s : List EV) (fc sc i j : Nat) (O : List EV) (v : Value) (wr : World) : Prop where
  fi : i ≤ f.length
  sj : j ≤ s.length
  len : O.length ≤ i + j
  kept : Kept (fun g => g = b1 ∨ g = b2) W3 wr
  l1 : Live W3 wr b1 b1 b2 (f.length - i) (fc - i) (f.drop i)
  l2 : Live W3 wr b2 b1 b2 (s.length - j) (sc - j) (s.drop j)
  row : wr.ownsRow W3.heap.size 36 4 v O.length (rv entKind O)
  mem : ∀ o ∈ O, o ∈ f ∨ o ∈ s
  two : Mg.Two (f.map (·.e)) (s.map (·.e)) (O.map (·.e)) ((f.drop i).map (·.e)) ((s.drop j).map (·.e))
theorem Live.keep {W3 wr w' : World} {b b1 b2 n c : Nat} {es : List EV} (h : Live W3 wr b b1 b2 n c es) (hk : w'.heap[b]? = wr.heap[b]?) : Live W3 w' b b1 b2 n c es := by
  obtain ⟨p, h1, h2, h3⟩ := h.at_
  exact ⟨p, hk.trans h1, h2, h3⟩
theorem MrgI.below {W3 : World} {b1 b2 : Nat} {f s : List EV} {fc sc i j : Nat} {O : List EV} {v : Value} {wr w' : World} (h : MrgI W3 b1 b2 f s fc sc i j O v wr) (hb : Below wr.heap.size wr w') : MrgI W3 b1 b2 f s fc sc i j O v w' := by
  refine ⟨h.fi, h.sj, h.len, h.kept.trans (Kept.of_below hb), ?_, ?_, own_block h.row (fun g hg => hb.block g (own_size h.row hg)), h.mem, h.two⟩
  · obtain ⟨p, h1, _⟩ := h.l1.at_
    exact h.l1.keep (hb.block _ (Array.getElem?_eq_some_iff.1 h1).1)
  · obtain ⟨p, h1, _⟩ := h.l2.at_
    exact h.l2.keep (hb.block _ (Array.getElem?_eq_some_iff.1 h1).1)
theorem drop_cons {es : List EV} {i : Nat} {y : EV} {t : List EV} (h : es.drop i = y :: t) : t = es.drop (i + 1) ∧ i < es.length ∧ y ∈ es := by
  refine ⟨?_, ?_, ?_⟩
  · have := congrArg List.tail h
    rw [List.tail_drop] at this
    exact this.symm
  · have := congrArg List.length h
    rw [List.length_drop, List.length_cons] at this
    omega
  · exact List.mem_of_mem_drop (by rw [h]; exact List.mem_cons_self ..)
set_option maxHeartbeats 16000000 in
set_option maxRecDepth 100000 in
theorem merged_any (N : Nat) : ∀ (p : Option Addr) (c : Nat) (ls : List LV) (w : World), RSrc listKind w p N c ls → N ≤ 1000000 → c ≤ maxLen → (∀ y ∈ ls, Sk.Up (y.es.map (·.e))) → ((ls.map (·.es)).flatten).length ≤ 1000000 →
    Calls Try.prog 26 #[.slice p N c] w fun e w' => ∃ v ys, e = .returned v ∧ w'.ownsRow w.heap.size 36 4 v ys.length (rv entKind ys) ∧ (∀ y ∈ ys, ∃ l ∈ ls, y ∈ l.es) ∧ Mg.Mrg ((lents ls).flatten) (ys.map (·.e)) ∧ ys.length ≤ ((ls.map (·.es)).flatten).length ∧ Below w.heap.size w w' := by
  induction N using Nat.strongRecOn with
  | ind N ih =>
  intro p c ls w hs hN hc hup htot
  obtain ⟨i0, hi0, hz0, hz1, hz2⟩ := info_parts3 infoE
  have HS := keep hs
  have HLEN := keep hs.len
  have HU := keep hup
  have HT := keep htot
  have HC := keep hc
  have hcap := hs.cap
  unfold maxLen at hc
  rcases Nat.lt_or_ge N 2 with hlt | hge
  · rcases Nat.eq_zero_or_pos N with h0 | h0
    · subst h0
      have hls : ls = [] := List.length_eq_zero_iff.1 hs.len
      subst hls
      have C0 := keep (concat0_any p c w)
      clear hs hup htot ih
      go_enter Try.func26, Try.ntmps26
      go_wp2_with fail
      refine C0.out.mono ?_
      rintro e w1 ⟨v, rfl, ho, hb⟩
      have O1 := keep ho
      have B1 := keep hb
      clear ho hb
      go_wp2
      go_ret
      first
        | exact ⟨_, [], rfl, O1.out, (fun y h => by cases h), Mg.Mrg.nil, Nat.zero_le _, B1.out⟩
        | exact ⟨_, rfl, [], O1.out, (fun y h => by cases h), Mg.Mrg.nil, Nat.zero_le _, B1.out⟩
    · obtain rfl : N = 1 := by omega
      obtain ⟨y, rfl⟩ : ∃ y, ls = [y] := List.length_eq_one_iff.1 hs.len
      obtain ⟨b, off, rfl, _, _⟩ := hs.form listKind_ok (by omega)
      have k0 := list_cell hs (i := 0) (x := y) rfl
      rw [Nat.add_zero] at k0
      have hy : RSrc entKind w y.p y.es.length y.c y.es := hs.held y (List.mem_singleton.2 rfl)
      have hyl : y.es.length ≤ 1000000 := by simpa using htot
      have C1 := keep (concat1_any b off c y.p y.es.length y.c y.es w hyl k0 hy)
      have MR : Hid (Mg.Mrg ((lents [y]).flatten) (y.es.map (·.e))) := by
        have := Mg.Mrg.self (hup y (List.mem_singleton.2 rfl))
        show Mg.Mrg _ _
        simpa [lents] using this
      have LL : Hid (y.es.length ≤ (([y].map (·.es)).flatten).length) := by show _ ≤ _; simp
      clear hs hup htot ih k0 hy
      go_enter Try.func26, Try.ntmps26
      go_wp2_with fail
      refine C1.out.mono ?_
      rintro e w1 ⟨v, rfl, ho, hb⟩
      have O1 := keep ho
      have B1 := keep hb
      clear ho hb
      go_wp2
      go_ret
      first
        | exact ⟨_, y.es, rfl, O1.out, (fun z h => ⟨y, List.mem_singleton.2 rfl, h⟩), MR.out, LL.out, B1.out⟩
        | exact ⟨_, rfl, y.es, O1.out, (fun z h => ⟨y, List.mem_singleton.2 rfl, h⟩), MR.out, LL.out, B1.out⟩
  · obtain ⟨b, off, rfl, _, _⟩ := hs.form listKind_ok (by omega)
    obtain ⟨H, hH⟩ : ∃ H, H = N / 2 := ⟨_, rfl⟩
    have h1 : 0 < H := by omega
    have h2 : H < N := by omega
    have SPL : Hid (ls = ls.take H ++ ls.drop H) := (List.take_append_drop H ls).symm
    have TOT : Hid (((ls.take H).map (·.es)).flatten.length + ((ls.drop H).map (·.es)).flatten.length = ((ls.map (·.es)).flatten).length) := by
      show _ = _
      conv => rhs; rw [SPL.out]
      rw [List.map_append, List.flatten_append, List.length_append]
    have I1 := keep (ih H h2 (some ⟨b, off, none⟩) c (ls.take H) w (hs.head listKind_ok H (by omega)) (by omega) HC.out (fun y hy => hup y (List.mem_of_mem_take hy)) (by have := TOT.out; omega))
    have I2 : Hid (∀ w', Below w.heap.size w w' → _) := fun w' hb => ih (N - H) (by omega) (some ⟨b, off + H, none⟩) (c - H) (ls.drop H) w' (by have := (HS.out.below listKind_ok hb).tail listKind_ok H (by omega); rwa [show listKind.size = 1 from rfl, Nat.mul_one] at this) (by omega) (Nat.le_trans (Nat.sub_le _ _) HC.out) (fun y hy => hup y (List.mem_of_mem_drop hy)) (by have := TOT.out; omega)
    have hd : (N : Int) / 2 = (H : Int) := by omega
    have hd2 : N / 2 = H := hH.symm
    have q1 : ¬ ((N : Int) < 2) := by omega
    have q2 : (0 : Int) ≤ (H : Int) := by omega
    have q3 : (H : Int) ≤ (c : Int) := by omega
    have q4 : (H : Int) ≤ (N : Int) := by omega
    have q5 : ¬ c = H := by omega
    have q6 : (N : Int) ≤ (c : Int) := by omega
    have HELD : Hid (∀ l ∈ ls, ∀ y ∈ l.es, ∀ w', Below w.heap.size w w' → entKind.held w' y) := fun l hl y hy w' hb => entKind_ok.below ((hs.held l hl).held y hy) hb
    clear hs hup htot ih hH
    go_enter Try.func26, Try.ntmps26
    go_wp2_with fail
    refine I1.out.mono ?_
    rintro e w1 ⟨v1, f, rfl, ho1, hm1, hM1, hl1, hb1⟩
    have O1 := keep ho1
    have B1 := keep hb1
    have MM1 := keep hm1
    have MR1 := keep hM1
    have LN1 := keep hl1
    obtain ⟨fp, fc, rfl, _, hfc⟩ := RSrc.own entKind_ok ho1 (fun y hy => by obtain ⟨l, hl, h⟩ := hm1 y hy; exact HELD.out l (List.mem_of_mem_take hl) y h w1 hb1)
    have FC := keep hfc
    obtain ⟨F, hF⟩ : ∃ F, f.length = F := ⟨_, rfl⟩
    have HF := keep hF
    rw [hF] at O1 ⊢
    clear ho1 hb1 hm1 hM1 hl1 I1 hfc hF
    obtain ⟨W1, hW1⟩ : ∃ W1, w1.alloc (.cells #[.slice fp F fc] 64) = W1 := ⟨_, rfl⟩
    have b1b : Hid (Below w1.heap.size w1 W1) := by rw [← hW1]; exact (Below.refl _ _).alloc (Nat.le_refl _) _
    have s1 : Hid (W1.heap.size = w1.heap.size + 1) := by rw [← hW1]; show _ = _; simp
    have L1 : Hid (Left W1 w1.heap.size fp F fc) := by rw [← hW1]; exact heap_alloc_new w1 _
    have BB1 := keep (B1.out.trans (b1b.out.mono B1.out.size))
    have I2' := keep (I2.out W1 BB1.out)
    go_wp2_with fail
    refine I2'.out.mono ?_
    rintro e w2 ⟨v2, s, rfl, ho2, hm2, hM2, hl2, hb2⟩
    have O2 := keep ho2
    have B2 := keep hb2
    have BB2 := keep (BB1.out.trans (hb2.mono BB1.out.size))
    have MM2 := keep hm2
    have MR2 := keep hM2
    have LN2 := keep hl2
    obtain ⟨sp, sc, rfl, _, hsc⟩ := RSrc.own entKind_ok ho2 (fun y hy => by obtain ⟨l, hl, h⟩ := hm2 y hy; exact HELD.out l (List.mem_of_mem_drop hl) y h w2 BB2.out)
    have SC := keep hsc
    obtain ⟨G, hG⟩ : ∃ G, s.length = G := ⟨_, rfl⟩
    have HG := keep hG
    rw [hG] at O2 ⊢
    clear ho2 hb2 hm2 hM2 hl2 I2 I2' hsc hG hW1
    obtain ⟨W3, hW3⟩ : ∃ W3, w2.alloc (.cells #[.slice sp G sc] 64) = W3 := ⟨_, rfl⟩
    have b3b : Hid (Below w2.heap.size w2 W3) := by rw [← hW3]; exact (Below.refl _ _).alloc (Nat.le_refl _) _
    have s3 : Hid (W3.heap.size = w2.heap.size + 1) := by rw [← hW3]; show _ = _; simp
    have BB3 := keep (BB2.out.trans (b3b.out.mono BB2.out.size))
    have W13 : Hid (Below W1.heap.size W1 W3) := B2.out.trans (b3b.out.mono B2.out.size)
    have z12 : Hid (w1.heap.size < w2.heap.size) := by have h1 := B2.out.size; rw [s1.out] at h1; exact h1
    have FH : Hid (∀ y ∈ f, ∀ w', Below w.heap.size w w' → entKind.held w' y) := fun y hy w' hb => by obtain ⟨l, hl, h⟩ := MM1.out y hy; exact HELD.out l (List.mem_of_mem_take hl) y h w' hb
    have SH : Hid (∀ y ∈ s, ∀ w', Below w.heap.size w w' → entKind.held w' y) := fun y hy w' hb => by obtain ⟨l, hl, h⟩ := MM2.out y hy; exact HELD.out l (List.mem_of_mem_drop hl) y h w' hb
    have LV1 : Hid (Live W3 W3 w1.heap.size w1.heap.size w2.heap.size F fc f) := by
      refine ⟨fp, (W13.out.block _ (by rw [s1.out]; omega)).trans L1.out, ?_, ?_⟩
      · obtain ⟨a', c', e', hr', _⟩ := RSrc.own entKind_ok O1.out (fun y hy => FH.out y hy w1 B1.out)
        cases e'
        exact (hr'.below entKind_ok b1b.out).below entKind_ok W13.out
      · intro ad had
        rcases O1.out.2 with ⟨h, _⟩ | ⟨g, cap, cur, h, hg, hh, _⟩
        · cases h; cases had
        · cases h; cases had
          have h1 : g < w1.heap.size := (Array.getElem?_eq_some_iff.1 hh).1
          have h2 := z12.out
          exact ⟨by simp only; omega, by simp only; omega⟩
    have LV2 : Hid (Live W3 W3 w2.heap.size w1.heap.size w2.heap.size G sc s) := by
      refine ⟨sp, by rw [← hW3]; exact heap_alloc_new w2 _, ?_, ?_⟩
      · obtain ⟨a', c', e', hr', _⟩ := RSrc.own entKind_ok O2.out (fun y hy => SH.out y hy w2 BB2.out)
        cases e'
        exact hr'.below entKind_ok b3b.out
      · intro ad had
        rcases O2.out.2 with ⟨h, _⟩ | ⟨g, cap, cur, h, hg, hh, _⟩
        · cases h; cases had
        · cases h; cases had
          have h1 : g < w2.heap.size := (Array.getElem?_eq_some_iff.1 hh).1
          have h2 := s1.out
          exact ⟨by simp only; omega, by simp only; omega⟩
    have UB : Hid (∀ g, (g = w1.heap.size ∨ g = w2.heap.size) → w.heap.size ≤ g) := fun g hg => by
      have h1 := B1.out.size
      have h2 := z12.out
      rcases hg with h | h <;> omega
    have KB : Hid (∀ wr, Kept (fun g => g = w1.heap.size ∨ g = w2.heap.size) W3 wr → Below w.heap.size w wr) := fun wr hk => BB3.out.trans (hk.below BB3.out.size UB.out)
    -- what next tells at any time
    have NX : Hid (∀ (i j : Nat) wr Wn, Live W3 wr w1.heap.size w1.heap.size w2.heap.size (f.length - i) (fc - i) (f.drop i) → Live W3 wr w2.heap.size w1.heap.size w2.heap.size (s.length - j) (sc - j) (s.drop j) → Kept (fun g => g = w1.heap.size ∨ g = w2.heap.size) W3 wr → wr.alloc (.cells #[.pointer (some ⟨w1.heap.size, 0, none⟩), .pointer (some ⟨w2.heap.size, 0, none⟩)] 62) = Wn → Calls Try.prog 47 #[.slice (some ⟨wr.heap.size, 0, none⟩) 2 2] Wn fun e w' => e = .returned (pick w1.heap.size w2.heap.size ((f.drop i).map (·.e)) ((s.drop j).map (·.e))) ∧ Below wr.heap.size wr w') := fun i j wr Wn h1 h2 hk hWn => by
      have hb : Below wr.heap.size wr Wn := by rw [← hWn]; exact (Below.refl _ _).alloc (Nat.le_refl _) _
      have hw := KB.out wr hk
      have hg : Wn.heap[wr.heap.size]? = some (.cells #[.pointer (some ⟨w1.heap.size, 0, none⟩), .pointer (some ⟨w2.heap.size, 0, none⟩)] 62) := by rw [← hWn]; exact heap_alloc_new wr _
      obtain ⟨p1, a1, a2, a3⟩ := h1.at_
      obtain ⟨p2, d1, d2, d3⟩ := h2.at_
      have r1 := (a2.keptU hk (fun ad had hu => by rcases hu with h | h; exact (a3 ad had).1 h; exact (a3 ad had).2 h) (fun y hy => FH.out y (List.mem_of_mem_drop hy) wr hw)).below entKind_ok hb
      have r2 := (d2.keptU hk (fun ad had hu => by rcases hu with h | h; exact (d3 ad had).1 h; exact (d3 ad had).2 h) (fun y hy => SH.out y (List.mem_of_mem_drop hy) wr hw)).below entKind_ok hb
      refine (next_any wr.heap.size w1.heap.size w2.heap.size p1 _ _ (f.drop i) p2 _ _ (s.drop j) Wn (cell_of_row _ _ _ _ _ _ hg) (cell_of_row _ _ _ _ _ _ hg) ((hb.block _ (Array.getElem?_eq_some_iff.1 a1).1).trans a1) ((hb.block _ (Array.getElem?_eq_some_iff.1 d1).1).trans d1) r1 r2).mono ?_
      rintro e w' ⟨rfl, h⟩
      exact ⟨rfl, hb.trans (h.mono hb.size)⟩
    have ST : Hid (∀ wr, Below W3.heap.size W3 wr → MrgI W3 w1.heap.size w2.heap.size f s fc sc 0 0 [] (.slice none 0 0) wr) := fun wr hb =>
      ⟨Nat.zero_le _, Nat.zero_le _, Nat.le_refl _, Kept.of_below hb, by rw [HF.out]; exact LV1.out.keep (hb.block _ (by have := z12.out; rw [s3.out]; omega)), by rw [HG.out]; exact LV2.out.keep (hb.block _ (by rw [s3.out]; omega)), World.ownsRow_nil _ _ _ _, (fun o h => by cases h), Mg.Two.start⟩
    have N0 := keep (NX.out 0 0 W3 _ (by rw [HF.out]; exact LV1.out) (by rw [HG.out]; exact LV2.out) (Kept.refl _ _) rfl)
    go_wp2_with fail
    refine N0.out.mono ?_
    rintro e w4 ⟨rfl, hb4⟩
    clear hW3
    have S4 := keep (ST.out w4 hb4)
    clear hb4 N0 ST
    go_wp2
    go_loopg [6, 7] (F + G) (fun kx v r wr => ∃ (i j : Nat) (O : List EV), kx = (F - i) + (G - j) ∧ r = pick w1.heap.size w2.heap.size ((f.drop i).map (·.e)) ((s.drop j).map (·.e)) ∧ Hid (MrgI W3 w1.heap.size w2.heap.size f s fc sc i j O v wr))
    case atStart => exact ⟨0, 0, [], rfl, rfl, S4.out⟩
    case round =>
      obtain ⟨i, j, O, hkx, hr, hI⟩ := hrel
      have HK := keep hI.out.kept
      have HBW := keep (KB.out wr hI.out.kept)
      have hfi := hI.out.fi
      have hsj := hI.out.sj
      have hOl := hI.out.len
      have hfF := HF.out
      have hsG := HG.out
      have OB : O.length ≤ 1000000 := by
        have h1 := LN1.out
        have h2 := LN2.out
        have h3 := TOT.out
        have h4 := HT.out
        omega
      clear hfF hsG
      cases hD : f.drop i with
      | nil =>
        cases hE : s.drop j with
        | nil =>
          rw [hD, hE] at hr
          have TW := hI.out.two
          rw [hD, hE] at TW
          have MG := keep (MR1.out.join MR2.out TW.done)
          have FL : Hid ((lents ls).flatten = (lents (ls.take H)).flatten ++ (lents (ls.drop H)).flatten) := by
            show _ = _
            rw [← List.flatten_append]
            congr 1
            unfold lents
            rw [← List.map_append, List.take_append_drop]
          rw [← FL.out] at MG
          have hr' : u7 = .pointer none := hr
          rw [hr']
          have LLL : Hid (O.length ≤ ((ls.map (·.es)).flatten).length) := by
            have h1 := LN1.out
            have h2 := LN2.out
            have h3 := TOT.out
            show _ ≤ _
            omega
          clear hr hr' TW
          go_wp2
          go_ret
          have MEM : ∀ y ∈ O, ∃ l ∈ ls, y ∈ l.es := fun y hy => by
            rcases hI.out.mem y hy with h | h
            · obtain ⟨l, hl, h'⟩ := MM1.out y h
              exact ⟨l, List.mem_of_mem_take hl, h'⟩
            · obtain ⟨l, hl, h'⟩ := MM2.out y h
              exact ⟨l, List.mem_of_mem_drop hl, h'⟩
          have ROW := own_base hI.out.row (fun g hg => Nat.le_trans BB3.out.size (hI.out.row.lt g hg).1)
          first
            | exact ⟨_, O, rfl, ROW, MEM, MG.out, (by first | exact LLL.out | simpa using LLL.out), HBW.out⟩
            | exact ⟨_, rfl, O, ROW, MEM, MG.out, (by first | exact LLL.out | simpa using LLL.out), HBW.out⟩
        | cons y t =>
          have hr' : u7 = .pointer (some ⟨w2.heap.size, 0, none⟩) := by rw [hr, hD, hE]; rfl
          have TW := hI.out.two
          have hstep := (show Mg.Two (f.map (·.e)) (s.map (·.e)) (O.map (·.e)) ((f.drop i).map (·.e)) (y.e :: t.map (·.e)) from by rw [hE] at TW; exact TW).takeB MR1.out.up MR2.out.up (fun a ha => by rw [hD] at ha; cases ha)
          rw [hr']
          have hD0 := hD
          clear hr hr' TW hD
          have hD := hE
          clear hE hD0
          obtain ⟨ht, hlt, hmem⟩ := drop_cons hD
          obtain ⟨p1, a1, a2, a3⟩ := hI.out.l2.at_
          have nz : 0 < (s.length - j) := by omega
          obtain ⟨d, o, rfl, _, _⟩ := a2.form entKind_ok nz
          have R1 := keep (a2.keptU HK.out (fun ad had hu => by rcases hu with h | h; exact (a3 ad had).1 h; exact (a3 ad had).2 h) (fun z hz => SH.out z (List.mem_of_mem_drop hz) wr HBW.out))
          have A1 := keep a1
          have A2 := keep a2
          have A3 := keep (a3 _ rfl)
          have TK := keep (take_any w2.heap.size d o (s.length - j) (sc - j) 1 (s.drop j) wr a1 R1.out (by omega) (Nat.le_trans (Nat.sub_le _ _) SC.out))
          rw [show ((1 : Nat) : Int) = 1 from rfl] at TK
          have hy0 : (s.drop j)[0]? = some y := by rw [hD]; rfl
          have YH := keep (R1.out.held y (List.mem_of_getElem? hy0))
          have YM := keep hmem
          have PT := keep hstep
          have HD := keep hD
          have HT1 := keep ht
          have hlt2 := hlt
          have OL0 := keep hI.out.l1
          clear a1 a2 a3 nz ht hlt hmem hstep hD
          go_wp2_with fail
          refine TK.out.mono ?_
          rintro e wt ⟨p', rfl, hwt, hp'⟩
          have HP' := keep hp'
          have KT : Hid (Kept (fun g => g = w1.heap.size ∨ g = w2.heap.size) W3 wt) := by rw [hwt]; exact HK.out.setCell (.inl (.inr rfl)) _
          have BT := keep (KB.out wt KT.out)
          have LT1 : Hid (Live W3 wt w2.heap.size w1.heap.size w2.heap.size (s.length - (j + 1)) (sc - (j + 1)) (s.drop (j + 1))) := by
            refine ⟨p', ?_, ?_, ?_⟩
            · rw [hwt]
              have := A1.out.set p' (s.length - j - 1) (sc - j - 1)
              rwa [Nat.sub_sub, Nat.sub_sub] at this
            · have := A2.out.after (by omega) hp'
              rwa [Nat.sub_sub, Nat.sub_sub, List.drop_drop] at this
            · intro ad had
              rcases hp' with ⟨h, _⟩ | ⟨h, _⟩
              · rw [h] at had; cases had; exact A3.out
              · rw [h] at had; cases had; exact A3.out
          have LT2 : Hid (Live W3 wt w1.heap.size w1.heap.size w2.heap.size (f.length - i) (fc - i) (f.drop i)) := OL0.out.keep (by rw [hwt]; exact set_far _ _ (by have := z12.out; omega))
          have RT : Hid (RSrc entKind wt (some ⟨d, o, none⟩) 1 (sc - j) [y]) := by
            have h1 := R1.out.head entKind_ok 1 (by omega)
            rw [HD.out] at h1
            exact h1.grown (by rw [hwt]; exact set_grown wr w2.heap.size 0 _) (fun ad had e => by cases had; exact A3.out.2 (Option.some.inj e)) (fun z hz => (List.mem_singleton.1 hz) ▸ SH.out y YM.out wt BT.out)
          have OT : Hid (wt.ownsRow W3.heap.size 36 4 u6 O.length (rv entKind O)) := own_block hI.out.row (fun g hg => by rw [hwt]; exact set_far _ _ (by have h1 := (hI.out.row.lt g hg).1; have h2 := z12.out; rw [s3.out] at h1; omega))
          have OM := keep hI.out.mem
          clear hwt hp' TK R1 A1 A2 HBW HK OL0
          obtain ⟨r0, r1, r2, r3⟩ := ent_cells RT.out (i := 0) (x := y) rfl
          simp only [Nat.zero_mul, Nat.add_zero] at r0 r1 r2 r3
          obtain ⟨CQ, hCQ⟩ : ∃ q, (sc - j) = q := ⟨_, rfl⟩
          rw [hCQ] at RT ⊢
          clear hCQ
          -- both ends
          have NEXT : Hid (∀ O' v' w6, Kept (fun g => g = w1.heap.size ∨ g = w2.heap.size) W3 w6 → (∀ g : Nat, g < W3.heap.size → w6.heap[g]? = wt.heap[g]?) → w6.ownsRow W3.heap.size 36 4 v' O'.length (rv entKind O') → (∀ z ∈ O', z ∈ f ∨ z ∈ s) → O'.length ≤ i + j + 1 → Mg.Two (f.map (·.e)) (s.map (·.e)) (O'.map (·.e)) ((f.drop i).map (·.e)) ((s.drop (j + 1)).map (·.e)) → MrgI W3 w1.heap.size w2.heap.size f s fc sc i (j + 1) O' v' w6) := fun O' v' w6 h1 h2 h3 h4 h5 h6 => by
            have q1 := LT1.out.keep (h2 w2.heap.size (by have := z12.out; rw [s3.out]; omega))
            have q2 := LT2.out.keep (h2 w1.heap.size (by have := z12.out; rw [s3.out]; omega))
            exact ⟨by omega, by omega, by omega, h1, q2, q1, h3, h4, h6⟩
          rcases List.eq_nil_or_concat O with h0 | ⟨O0, z, h0⟩
          · have NO : Hid (O.length = 0) := by rw [h0]; rfl
            have TW : Hid (Mg.Two (f.map (·.e)) (s.map (·.e)) ((O ++ [y]).map (·.e)) ((f.drop i).map (·.e)) ((s.drop (j + 1)).map (·.e))) := by
              have := PT.out.1 (by rw [h0]; rfl)
              rw [HT1.out] at this
              rw [List.map_append]
              exact this
            obtain ⟨oa, oc, e6⟩ : ∃ a c, u6 = .slice a 0 c := by
              rcases OT.out.2 with ⟨h, _⟩ | ⟨g, cap, cur, h, _⟩
              · exact ⟨_, _, h⟩
              · exact ⟨_, _, by rw [h, NO.out]⟩
            rw [e6] at OT ⊢
            clear h0 e6
            obtain ⟨ykp, ykc, yvp, yvc, ⟨ykey, yseq, ygone, yval⟩⟩ := y
            go_wp2_with fail
            go_quiet (fail)
            obtain ⟨wq, hwq⟩ : ∃ wq, wt.drewN nq = wq := ⟨_, rfl⟩
            rw [hwq]
            have KQ : Hid (Kept (fun g => g = w1.heap.size ∨ g = w2.heap.size) W3 wq ∧ ∀ g : Nat, wq.heap[g]? = wt.heap[g]?) := by rw [← hwq]; exact ⟨⟨KT.out.os, KT.out.tape, KT.out.output, KT.out.size, KT.out.block⟩, fun _ => rfl⟩
            have OQ : Hid (wq.ownsRow W3.heap.size 36 4 (.slice oa 0 oc) O.length (rv entKind O)) := own_block OT.out (fun g _ => KQ.out.2 g)
            have RQ : Hid (RSrc entKind wq (some ⟨d, o, none⟩) 1 CQ [⟨ykp, ykc, yvp, yvc, ⟨ykey, yseq, ygone, yval⟩⟩]) := by rw [← hwq]; exact RT.out.below entKind_ok (below_drewN (Below.refl _ _) _)
            clear hwq r0 r1 r2 r3
            have RCL := keep RQ.out.cells
            go_wp2_with (at_builtin; go_loud (refine wpList_append_rowsM rfl _ _ 24 36 rfl W3.heap.size i0 _ 4 64 Try.underlying24 hi0 hz0 hz1 hz2 rfl (by decide) (.slice oa 0 oc) O.length (rv entKind O) rfl OQ.out (some ⟨d, o, none⟩) 1 CQ (rv entKind [⟨ykp, ykc, yvp, yvc, ⟨ykey, yseq, ygone, yval⟩⟩]) rfl (fun h => by cases h) rfl RCL.out (rv_one entKind_ok _) (by unfold maxLen; omega) (by omega) KQ.out.1.size ?_); intro v7 w7 ho7 hg7; have HO7 := keep ho7; have HG7 := keep hg7; clear ho7 hg7)
            have FI : Hid (MrgI W3 w1.heap.size w2.heap.size f s fc sc i (j + 1) (O ++ [⟨ykp, ykc, yvp, yvc, ⟨ykey, yseq, ygone, yval⟩⟩]) v7 w7) := by
              refine NEXT.out _ _ _ (KQ.out.1.grown HG7.out (fun k hk => .inr (OQ.out.lt k hk).1)) (fun g hg => ?_) (by rw [List.length_append, rv_append]; exact HO7.out) (fun x hx => ?_) (by rw [List.length_append, List.length_singleton]; omega) TW.out
              · rw [HG7.out.block g (Nat.lt_of_lt_of_le hg KQ.out.1.size) (fun e => by have := (OQ.out.lt g e.symm).1; omega)]
                exact KQ.out.2 g
              · rcases List.mem_append.1 hx with hx | hx
                · exact OM.out x hx
                · rw [List.mem_singleton.1 hx]; exact (.inr YM.out)
            obtain ⟨_, _, _, h1k, h1l, h2l, _, _, _⟩ := FI.out
            have NN5 := keep (NX.out i (j + 1) _ _ h1l h2l h1k rfl)
            clear h1k h1l h2l
            go_wp2_with fail
            refine NN5.out.mono ?_
            rintro e w8 ⟨rfl, hb8⟩
            have FE : Hid (MrgI W3 w1.heap.size w2.heap.size f s fc sc i (j + 1) _ _ w8) := FI.out.below hb8
            clear hb8 NN5
            go_wp2
            go_roundg ((F - i) + (G - (j + 1)))
            case measure => have := HF.out; have := HG.out; omega
            case rel => exact ⟨i, (j + 1), _, rfl, by first | rfl | simp, FE.out⟩
          · rw [List.concat_eq_append] at h0
            have hol : O.length = O0.length + 1 := by rw [h0]; simp
            obtain ⟨LO, hLO⟩ : ∃ L, O0.length = L := ⟨_, rfl⟩
            rw [hLO] at hol
            obtain ⟨og, oc, e6⟩ : ∃ g c, u6 = .slice (some ⟨g, 0, none⟩) (LO + 1) c := by
              rcases OT.out.2 with ⟨_, h⟩ | ⟨g, cap, cur, h, _⟩
              · omega
              · exact ⟨_, _, by rw [h, hol]⟩
            rw [e6] at OT ⊢
            have ZH : entKind.held wt z := by
              rcases OM.out z (by rw [h0]; exact List.mem_append_right _ (List.mem_singleton.2 rfl)) with h | h
              · exact FH.out z h wt BT.out
              · exact SH.out z h wt BT.out
            have hz0 : O[LO]? = some z := by rw [h0, List.getElem?_append_right (by omega), hLO, Nat.sub_self]; rfl
            have OS : RSrc entKind wt (some ⟨og, 0, none⟩) (LO + 1) oc O := by
              have OT2 := OT.out
              rw [hol] at OT2
              obtain ⟨a', c', e', hr', _⟩ := RSrc.own entKind_ok OT2 (fun x hx => by
                rcases OM.out x hx with h | h
                · exact FH.out x h wt BT.out
                · exact SH.out x h wt BT.out)
              cases e'
              exact hr'
            obtain ⟨g0, g1, g2, g3⟩ := ent_cells OS hz0
            simp only [Nat.zero_add] at g0 g1 g2 g3
            have IA : Hid (∀ w', Below wt.heap.size wt w' → Calls Try.prog 24 #[ev z, ev y] w' fun e w'' => e = .returned (.bool (Mg.ahead z.e y.e)) ∧ Below wt.heap.size wt w'') := fun w' hb => by
              refine (isAhead_any z y w' (entKind_ok.below ZH hb) (entKind_ok.below (SH.out y YM.out wt BT.out) hb)).mono ?_
              rintro e w'' ⟨rfl, hb'⟩
              exact ⟨rfl, hb.trans (hb'.mono hb.size)⟩
            have TW := PT.out.2 z.e (by rw [h0, List.map_append]; simp)
            obtain ⟨r, hr⟩ : ∃ r, Mg.ahead z.e y.e = r := ⟨_, rfl⟩
            rw [hr] at IA TW
            rw [HT1.out] at TW
            have TWK := keep TW
            have HOL := keep hol
            clear hr TW h0 hz0 OS ZH e6 hLO hol
            obtain ⟨ykp, ykc, yvp, yvc, ⟨ykey, yseq, ygone, yval⟩⟩ := y
            obtain ⟨zkp, zkc, zvp, zvc, ⟨zkey, zseq, zgone, zval⟩⟩ := z
            unfold ev at IA
            simp only at IA r0 r1 r2 r3 g0 g1 g2 g3
            have k1 : ((LO : Int) + 1 == 0) = false := by
              rw [beq_eq_false_iff_ne]
              omega
            have k2 : ¬ ((LO : Int) + 1 = 0) := by omega
            have k3 : (LO : Int) < (LO : Int) + 1 := by omega
            have k4 : (0 : Int) ≤ (LO : Int) := by omega
            have k5 : (LO : Int) ≤ 1000000 := by have := HOL.out; omega
            have lw : IntKind.i64.wrap ((LO : Int)) = (LO : Int) := wrap_small _ (by omega) (by omega)
            go_wp2_with fail
            go_region_held3 (fun w' => w'.cell? ⟨og, LO * 4, none⟩ = some (.slice zkp zkey.length zkc) ∧ w'.cell? ⟨og, LO * 4 + 1, none⟩ = some (.int .i64 zseq) ∧ w'.cell? ⟨og, LO * 4 + 2, none⟩ = some (.bool zgone) ∧ w'.cell? ⟨og, LO * 4 + 3, none⟩ = some (.slice zvp zval.length zvc) ∧ w'.cell? ⟨d, o, none⟩ = some (.slice ykp ykey.length ykc) ∧ w'.cell? ⟨d, o + 1, none⟩ = some (.int .i64 yseq) ∧ w'.cell? ⟨d, o + 2, none⟩ = some (.bool ygone) ∧ w'.cell? ⟨d, o + 3, none⟩ = some (.slice yvp yval.length yvc))
              (first | exact ⟨g0, g1, g2, g3, r0, r1, r2, r3⟩ | exact ⟨below_cell b4.out g0, below_cell b4.out g1, below_cell b4.out g2, below_cell b4.out g3, below_cell b4.out r0, below_cell b4.out r1, below_cell b4.out r2, below_cell b4.out r3⟩)
              ((go_at_call 24; refine (IA.out _ ((Below.refl _ _).drew)).mono ?_; rintro e w4' ⟨rfl, hb4⟩; have b4 := keep hb4; clear hb4))
            have B4 := keep (b4.out)
            have K4 : Hid (Kept (fun g => g = w1.heap.size ∨ g = w2.heap.size) W3 w4' ∧ ∀ g : Nat, g < W3.heap.size → w4'.heap[g]? = wt.heap[g]?) := ⟨KT.out.trans (Kept.of_below B4.out), fun g hg => B4.out.block g (Nat.lt_of_lt_of_le hg KT.out.size)⟩
            have O4 : Hid (w4'.ownsRow W3.heap.size 36 4 (.slice (some ⟨og, 0, none⟩) (LO + 1) oc) O.length (rv entKind O)) := own_block OT.out (fun g hg => B4.out.block g (own_size OT.out hg))
            have R4 := keep (RT.out.below entKind_ok B4.out)
            clear r0 r1 r2 r3 g0 g1 g2 g3
            cases r with
            | true =>
              have RCL := keep R4.out.cells
              go_wp2_with (at_builtin; go_loud (refine wpList_append_rowsM rfl _ _ 24 36 rfl W3.heap.size i0 _ 4 64 Try.underlying24 hi0 hz0 hz1 hz2 rfl (by decide) (.slice (some ⟨og, 0, none⟩) (LO + 1) oc) O.length (rv entKind O) rfl O4.out (some ⟨d, o, none⟩) 1 CQ (rv entKind [⟨ykp, ykc, yvp, yvc, ⟨ykey, yseq, ygone, yval⟩⟩]) rfl (fun h => by cases h) rfl RCL.out (rv_one entKind_ok _) (by unfold maxLen; omega) (by omega) K4.out.1.size ?_); intro v7 w7 ho7 hg7; have HO7 := keep ho7; have HG7 := keep hg7; clear ho7 hg7)
              have FI : Hid (MrgI W3 w1.heap.size w2.heap.size f s fc sc i (j + 1) (O ++ [⟨ykp, ykc, yvp, yvc, ⟨ykey, yseq, ygone, yval⟩⟩]) v7 w7) := by
                refine NEXT.out _ _ _ (K4.out.1.grown HG7.out (fun k hk => .inr (O4.out.lt k hk).1)) (fun g hg => ?_) (by rw [List.length_append, rv_append]; exact HO7.out) (fun x hx => ?_) (by rw [List.length_append, List.length_singleton]; omega) (by rw [List.map_append]; exact TWK.out.1 (by simp))
                · rw [HG7.out.block g (Nat.lt_of_lt_of_le hg K4.out.1.size) (fun e => by have := (O4.out.lt g e.symm).1; omega)]
                  exact K4.out.2 g hg
                · rcases List.mem_append.1 hx with hx | hx
                  · exact OM.out x hx
                  · rw [List.mem_singleton.1 hx]; exact (.inr YM.out)
              obtain ⟨_, _, _, h1k, h1l, h2l, _, _, _⟩ := FI.out
              have NN5 := keep (NX.out i (j + 1) _ _ h1l h2l h1k rfl)
              clear h1k h1l h2l
              go_wp2_with fail
              refine NN5.out.mono ?_
              rintro e w8 ⟨rfl, hb8⟩
              have FE : Hid (MrgI W3 w1.heap.size w2.heap.size f s fc sc i (j + 1) _ _ w8) := FI.out.below hb8
              clear hb8 NN5
              go_wp2
              go_roundg ((F - i) + (G - (j + 1)))
              case measure => have := HF.out; have := HG.out; omega
              case rel => exact ⟨i, (j + 1), _, rfl, by first | rfl | simp, FE.out⟩
            | false =>
              have FI := keep (NEXT.out O _ w4' K4.out.1 K4.out.2 O4.out OM.out (by omega) (TWK.out.2 (by simp)))
              obtain ⟨_, _, _, h1k, h1l, h2l, _, _, _⟩ := FI.out
              have NN5 := keep (NX.out i (j + 1) _ _ h1l h2l h1k rfl)
              clear h1k h1l h2l
              go_wp2_with fail
              refine NN5.out.mono ?_
              rintro e w8 ⟨rfl, hb8⟩
              have FE : Hid (MrgI W3 w1.heap.size w2.heap.size f s fc sc i (j + 1) _ _ w8) := FI.out.below hb8
              clear hb8 NN5
              go_wp2
              go_roundg ((F - i) + (G - (j + 1)))
              case measure => have := HF.out; have := HG.out; omega
              case rel => exact ⟨i, (j + 1), _, rfl, by first | rfl | simp, FE.out⟩
      | cons x t0 =>
        cases hE : s.drop j with
        | nil =>
          have hr' : u7 = .pointer (some ⟨w1.heap.size, 0, none⟩) := by rw [hr, hD, hE]; rfl
          obtain ⟨y, hy⟩ : ∃ y, y = x := ⟨_, rfl⟩
          obtain ⟨t, htt⟩ : ∃ t, t = t0 := ⟨_, rfl⟩
          rw [← hy, ← htt] at hD
          have TW := hI.out.two
          have hstep := (show Mg.Two (f.map (·.e)) (s.map (·.e)) (O.map (·.e)) (y.e :: t.map (·.e)) ((s.drop j).map (·.e)) from by rw [hD] at TW; exact TW).takeA MR1.out.up MR2.out.up (fun a ha => by rw [hE] at ha; cases ha)
          rw [hr']
          clear hr hr' TW hE hy htt
          obtain ⟨ht, hlt, hmem⟩ := drop_cons hD
          obtain ⟨p1, a1, a2, a3⟩ := hI.out.l1.at_
          have nz : 0 < (f.length - i) := by omega
          obtain ⟨d, o, rfl, _, _⟩ := a2.form entKind_ok nz
          have R1 := keep (a2.keptU HK.out (fun ad had hu => by rcases hu with h | h; exact (a3 ad had).1 h; exact (a3 ad had).2 h) (fun z hz => FH.out z (List.mem_of_mem_drop hz) wr HBW.out))
          have A1 := keep a1
          have A2 := keep a2
          have A3 := keep (a3 _ rfl)
          have TK := keep (take_any w1.heap.size d o (f.length - i) (fc - i) 1 (f.drop i) wr a1 R1.out (by omega) (Nat.le_trans (Nat.sub_le _ _) FC.out))
          rw [show ((1 : Nat) : Int) = 1 from rfl] at TK
          have hy0 : (f.drop i)[0]? = some y := by rw [hD]; rfl
          have YH := keep (R1.out.held y (List.mem_of_getElem? hy0))
          have YM := keep hmem
          have PT := keep hstep
          have HD := keep hD
          have HT1 := keep ht
          have hlt2 := hlt
          have OL0 := keep hI.out.l2
          clear a1 a2 a3 nz ht hlt hmem hstep hD
          go_wp2_with fail
          refine TK.out.mono ?_
          rintro e wt ⟨p', rfl, hwt, hp'⟩
          have HP' := keep hp'
          have KT : Hid (Kept (fun g => g = w1.heap.size ∨ g = w2.heap.size) W3 wt) := by rw [hwt]; exact HK.out.setCell (.inl (.inl rfl)) _
          have BT := keep (KB.out wt KT.out)
          have LT1 : Hid (Live W3 wt w1.heap.size w1.heap.size w2.heap.size (f.length - (i + 1)) (fc - (i + 1)) (f.drop (i + 1))) := by
            refine ⟨p', ?_, ?_, ?_⟩
            · rw [hwt]
              have := A1.out.set p' (f.length - i - 1) (fc - i - 1)
              rwa [Nat.sub_sub, Nat.sub_sub] at this
            · have := A2.out.after (by omega) hp'
              rwa [Nat.sub_sub, Nat.sub_sub, List.drop_drop] at this
            · intro ad had
              rcases hp' with ⟨h, _⟩ | ⟨h, _⟩
              · rw [h] at had; cases had; exact A3.out
              · rw [h] at had; cases had; exact A3.out
          have LT2 : Hid (Live W3 wt w2.heap.size w1.heap.size w2.heap.size (s.length - j) (sc - j) (s.drop j)) := OL0.out.keep (by rw [hwt]; exact set_far _ _ (by have := z12.out; omega))
          have RT : Hid (RSrc entKind wt (some ⟨d, o, none⟩) 1 (fc - i) [y]) := by
            have h1 := R1.out.head entKind_ok 1 (by omega)
            rw [HD.out] at h1
            exact h1.grown (by rw [hwt]; exact set_grown wr w1.heap.size 0 _) (fun ad had e => by cases had; exact A3.out.1 (Option.some.inj e)) (fun z hz => (List.mem_singleton.1 hz) ▸ FH.out y YM.out wt BT.out)
          have OT : Hid (wt.ownsRow W3.heap.size 36 4 u6 O.length (rv entKind O)) := own_block hI.out.row (fun g hg => by rw [hwt]; exact set_far _ _ (by have h1 := (hI.out.row.lt g hg).1; have h2 := z12.out; rw [s3.out] at h1; omega))
          have OM := keep hI.out.mem
          clear hwt hp' TK R1 A1 A2 HBW HK OL0
          obtain ⟨r0, r1, r2, r3⟩ := ent_cells RT.out (i := 0) (x := y) rfl
          simp only [Nat.zero_mul, Nat.add_zero] at r0 r1 r2 r3
          obtain ⟨CQ, hCQ⟩ : ∃ q, (fc - i) = q := ⟨_, rfl⟩
          rw [hCQ] at RT ⊢
          clear hCQ
          -- both ends
          have NEXT : Hid (∀ O' v' w6, Kept (fun g => g = w1.heap.size ∨ g = w2.heap.size) W3 w6 → (∀ g : Nat, g < W3.heap.size → w6.heap[g]? = wt.heap[g]?) → w6.ownsRow W3.heap.size 36 4 v' O'.length (rv entKind O') → (∀ z ∈ O', z ∈ f ∨ z ∈ s) → O'.length ≤ i + j + 1 → Mg.Two (f.map (·.e)) (s.map (·.e)) (O'.map (·.e)) ((f.drop (i + 1)).map (·.e)) ((s.drop j).map (·.e)) → MrgI W3 w1.heap.size w2.heap.size f s fc sc (i + 1) j O' v' w6) := fun O' v' w6 h1 h2 h3 h4 h5 h6 => by
            have q1 := LT1.out.keep (h2 w1.heap.size (by have := z12.out; rw [s3.out]; omega))
            have q2 := LT2.out.keep (h2 w2.heap.size (by have := z12.out; rw [s3.out]; omega))
            exact ⟨by omega, by omega, by omega, h1, q1, q2, h3, h4, h6⟩
          rcases List.eq_nil_or_concat O with h0 | ⟨O0, z, h0⟩
          · have NO : Hid (O.length = 0) := by rw [h0]; rfl
            have TW : Hid (Mg.Two (f.map (·.e)) (s.map (·.e)) ((O ++ [y]).map (·.e)) ((f.drop (i + 1)).map (·.e)) ((s.drop j).map (·.e))) := by
              have := PT.out.1 (by rw [h0]; rfl)
              rw [HT1.out] at this
              rw [List.map_append]
              exact this
            obtain ⟨oa, oc, e6⟩ : ∃ a c, u6 = .slice a 0 c := by
              rcases OT.out.2 with ⟨h, _⟩ | ⟨g, cap, cur, h, _⟩
              · exact ⟨_, _, h⟩
              · exact ⟨_, _, by rw [h, NO.out]⟩
            rw [e6] at OT ⊢
            clear h0 e6
            obtain ⟨ykp, ykc, yvp, yvc, ⟨ykey, yseq, ygone, yval⟩⟩ := y
            go_wp2_with fail
            go_quiet (fail)
            obtain ⟨wq, hwq⟩ : ∃ wq, wt.drewN nq = wq := ⟨_, rfl⟩
            rw [hwq]
            have KQ : Hid (Kept (fun g => g = w1.heap.size ∨ g = w2.heap.size) W3 wq ∧ ∀ g : Nat, wq.heap[g]? = wt.heap[g]?) := by rw [← hwq]; exact ⟨⟨KT.out.os, KT.out.tape, KT.out.output, KT.out.size, KT.out.block⟩, fun _ => rfl⟩
            have OQ : Hid (wq.ownsRow W3.heap.size 36 4 (.slice oa 0 oc) O.length (rv entKind O)) := own_block OT.out (fun g _ => KQ.out.2 g)
            have RQ : Hid (RSrc entKind wq (some ⟨d, o, none⟩) 1 CQ [⟨ykp, ykc, yvp, yvc, ⟨ykey, yseq, ygone, yval⟩⟩]) := by rw [← hwq]; exact RT.out.below entKind_ok (below_drewN (Below.refl _ _) _)
            clear hwq r0 r1 r2 r3
            have RCL := keep RQ.out.cells
            go_wp2_with (at_builtin; go_loud (refine wpList_append_rowsM rfl _ _ 24 36 rfl W3.heap.size i0 _ 4 64 Try.underlying24 hi0 hz0 hz1 hz2 rfl (by decide) (.slice oa 0 oc) O.length (rv entKind O) rfl OQ.out (some ⟨d, o, none⟩) 1 CQ (rv entKind [⟨ykp, ykc, yvp, yvc, ⟨ykey, yseq, ygone, yval⟩⟩]) rfl (fun h => by cases h) rfl RCL.out (rv_one entKind_ok _) (by unfold maxLen; omega) (by omega) KQ.out.1.size ?_); intro v7 w7 ho7 hg7; have HO7 := keep ho7; have HG7 := keep hg7; clear ho7 hg7)
            have FI : Hid (MrgI W3 w1.heap.size w2.heap.size f s fc sc (i + 1) j (O ++ [⟨ykp, ykc, yvp, yvc, ⟨ykey, yseq, ygone, yval⟩⟩]) v7 w7) := by
              refine NEXT.out _ _ _ (KQ.out.1.grown HG7.out (fun k hk => .inr (OQ.out.lt k hk).1)) (fun g hg => ?_) (by rw [List.length_append, rv_append]; exact HO7.out) (fun x hx => ?_) (by rw [List.length_append, List.length_singleton]; omega) TW.out
              · rw [HG7.out.block g (Nat.lt_of_lt_of_le hg KQ.out.1.size) (fun e => by have := (OQ.out.lt g e.symm).1; omega)]
                exact KQ.out.2 g
              · rcases List.mem_append.1 hx with hx | hx
                · exact OM.out x hx
                · rw [List.mem_singleton.1 hx]; exact (.inl YM.out)
            obtain ⟨_, _, _, h1k, h1l, h2l, _, _, _⟩ := FI.out
            have NN5 := keep (NX.out (i + 1) j _ _ h1l h2l h1k rfl)
            clear h1k h1l h2l
            go_wp2_with fail
            refine NN5.out.mono ?_
            rintro e w8 ⟨rfl, hb8⟩
            have FE : Hid (MrgI W3 w1.heap.size w2.heap.size f s fc sc (i + 1) j _ _ w8) := FI.out.below hb8
            clear hb8 NN5
            go_wp2
            go_roundg ((F - (i + 1)) + (G - j))
            case measure => have := HF.out; have := HG.out; omega
            case rel => exact ⟨(i + 1), j, _, rfl, by first | rfl | simp, FE.out⟩
          · rw [List.concat_eq_append] at h0
            have hol : O.length = O0.length + 1 := by rw [h0]; simp
            obtain ⟨LO, hLO⟩ : ∃ L, O0.length = L := ⟨_, rfl⟩
            rw [hLO] at hol
            obtain ⟨og, oc, e6⟩ : ∃ g c, u6 = .slice (some ⟨g, 0, none⟩) (LO + 1) c := by
              rcases OT.out.2 with ⟨_, h⟩ | ⟨g, cap, cur, h, _⟩
              · omega
              · exact ⟨_, _, by rw [h, hol]⟩
            rw [e6] at OT ⊢
            have ZH : entKind.held wt z := by
              rcases OM.out z (by rw [h0]; exact List.mem_append_right _ (List.mem_singleton.2 rfl)) with h | h
              · exact FH.out z h wt BT.out
              · exact SH.out z h wt BT.out
            have hz0 : O[LO]? = some z := by rw [h0, List.getElem?_append_right (by omega), hLO, Nat.sub_self]; rfl
            have OS : RSrc entKind wt (some ⟨og, 0, none⟩) (LO + 1) oc O := by
              have OT2 := OT.out
              rw [hol] at OT2
              obtain ⟨a', c', e', hr', _⟩ := RSrc.own entKind_ok OT2 (fun x hx => by
                rcases OM.out x hx with h | h
                · exact FH.out x h wt BT.out
                · exact SH.out x h wt BT.out)
              cases e'
              exact hr'
            obtain ⟨g0, g1, g2, g3⟩ := ent_cells OS hz0
            simp only [Nat.zero_add] at g0 g1 g2 g3
            have IA : Hid (∀ w', Below wt.heap.size wt w' → Calls Try.prog 24 #[ev z, ev y] w' fun e w'' => e = .returned (.bool (Mg.ahead z.e y.e)) ∧ Below wt.heap.size wt w'') := fun w' hb => by
              refine (isAhead_any z y w' (entKind_ok.below ZH hb) (entKind_ok.below (FH.out y YM.out wt BT.out) hb)).mono ?_
              rintro e w'' ⟨rfl, hb'⟩
              exact ⟨rfl, hb.trans (hb'.mono hb.size)⟩
            have TW := PT.out.2 z.e (by rw [h0, List.map_append]; simp)
            obtain ⟨r, hr⟩ : ∃ r, Mg.ahead z.e y.e = r := ⟨_, rfl⟩
            rw [hr] at IA TW
            rw [HT1.out] at TW
            have TWK := keep TW
            have HOL := keep hol
            clear hr TW h0 hz0 OS ZH e6 hLO hol
            obtain ⟨ykp, ykc, yvp, yvc, ⟨ykey, yseq, ygone, yval⟩⟩ := y
            obtain ⟨zkp, zkc, zvp, zvc, ⟨zkey, zseq, zgone, zval⟩⟩ := z
            unfold ev at IA
            simp only at IA r0 r1 r2 r3 g0 g1 g2 g3
            have k1 : ((LO : Int) + 1 == 0) = false := by
              rw [beq_eq_false_iff_ne]
              omega
            have k2 : ¬ ((LO : Int) + 1 = 0) := by omega
            have k3 : (LO : Int) < (LO : Int) + 1 := by omega
            have k4 : (0 : Int) ≤ (LO : Int) := by omega
            have k5 : (LO : Int) ≤ 1000000 := by have := HOL.out; omega
            have lw : IntKind.i64.wrap ((LO : Int)) = (LO : Int) := wrap_small _ (by omega) (by omega)
            go_wp2_with fail
            go_region_held3 (fun w' => w'.cell? ⟨og, LO * 4, none⟩ = some (.slice zkp zkey.length zkc) ∧ w'.cell? ⟨og, LO * 4 + 1, none⟩ = some (.int .i64 zseq) ∧ w'.cell? ⟨og, LO * 4 + 2, none⟩ = some (.bool zgone) ∧ w'.cell? ⟨og, LO * 4 + 3, none⟩ = some (.slice zvp zval.length zvc) ∧ w'.cell? ⟨d, o, none⟩ = some (.slice ykp ykey.length ykc) ∧ w'.cell? ⟨d, o + 1, none⟩ = some (.int .i64 yseq) ∧ w'.cell? ⟨d, o + 2, none⟩ = some (.bool ygone) ∧ w'.cell? ⟨d, o + 3, none⟩ = some (.slice yvp yval.length yvc))
              (first | exact ⟨g0, g1, g2, g3, r0, r1, r2, r3⟩ | exact ⟨below_cell b4.out g0, below_cell b4.out g1, below_cell b4.out g2, below_cell b4.out g3, below_cell b4.out r0, below_cell b4.out r1, below_cell b4.out r2, below_cell b4.out r3⟩)
              ((go_at_call 24; refine (IA.out _ ((Below.refl _ _).drew)).mono ?_; rintro e w4' ⟨rfl, hb4⟩; have b4 := keep hb4; clear hb4))
            have B4 := keep (b4.out)
            have K4 : Hid (Kept (fun g => g = w1.heap.size ∨ g = w2.heap.size) W3 w4' ∧ ∀ g : Nat, g < W3.heap.size → w4'.heap[g]? = wt.heap[g]?) := ⟨KT.out.trans (Kept.of_below B4.out), fun g hg => B4.out.block g (Nat.lt_of_lt_of_le hg KT.out.size)⟩
            have O4 : Hid (w4'.ownsRow W3.heap.size 36 4 (.slice (some ⟨og, 0, none⟩) (LO + 1) oc) O.length (rv entKind O)) := own_block OT.out (fun g hg => B4.out.block g (own_size OT.out hg))
            have R4 := keep (RT.out.below entKind_ok B4.out)
            clear r0 r1 r2 r3 g0 g1 g2 g3
            cases r with
            | true =>
              have RCL := keep R4.out.cells
              go_wp2_with (at_builtin; go_loud (refine wpList_append_rowsM rfl _ _ 24 36 rfl W3.heap.size i0 _ 4 64 Try.underlying24 hi0 hz0 hz1 hz2 rfl (by decide) (.slice (some ⟨og, 0, none⟩) (LO + 1) oc) O.length (rv entKind O) rfl O4.out (some ⟨d, o, none⟩) 1 CQ (rv entKind [⟨ykp, ykc, yvp, yvc, ⟨ykey, yseq, ygone, yval⟩⟩]) rfl (fun h => by cases h) rfl RCL.out (rv_one entKind_ok _) (by unfold maxLen; omega) (by omega) K4.out.1.size ?_); intro v7 w7 ho7 hg7; have HO7 := keep ho7; have HG7 := keep hg7; clear ho7 hg7)
              have FI : Hid (MrgI W3 w1.heap.size w2.heap.size f s fc sc (i + 1) j (O ++ [⟨ykp, ykc, yvp, yvc, ⟨ykey, yseq, ygone, yval⟩⟩]) v7 w7) := by
                refine NEXT.out _ _ _ (K4.out.1.grown HG7.out (fun k hk => .inr (O4.out.lt k hk).1)) (fun g hg => ?_) (by rw [List.length_append, rv_append]; exact HO7.out) (fun x hx => ?_) (by rw [List.length_append, List.length_singleton]; omega) (by rw [List.map_append]; exact TWK.out.1 (by simp))
                · rw [HG7.out.block g (Nat.lt_of_lt_of_le hg K4.out.1.size) (fun e => by have := (O4.out.lt g e.symm).1; omega)]
                  exact K4.out.2 g hg
                · rcases List.mem_append.1 hx with hx | hx
                  · exact OM.out x hx
                  · rw [List.mem_singleton.1 hx]; exact (.inl YM.out)
              obtain ⟨_, _, _, h1k, h1l, h2l, _, _, _⟩ := FI.out
              have NN5 := keep (NX.out (i + 1) j _ _ h1l h2l h1k rfl)
              clear h1k h1l h2l
              go_wp2_with fail
              refine NN5.out.mono ?_
              rintro e w8 ⟨rfl, hb8⟩
              have FE : Hid (MrgI W3 w1.heap.size w2.heap.size f s fc sc (i + 1) j _ _ w8) := FI.out.below hb8
              clear hb8 NN5
              go_wp2
              go_roundg ((F - (i + 1)) + (G - j))
              case measure => have := HF.out; have := HG.out; omega
              case rel => exact ⟨(i + 1), j, _, rfl, by first | rfl | simp, FE.out⟩
            | false =>
              have FI := keep (NEXT.out O _ w4' K4.out.1 K4.out.2 O4.out OM.out (by omega) (TWK.out.2 (by simp)))
              obtain ⟨_, _, _, h1k, h1l, h2l, _, _, _⟩ := FI.out
              have NN5 := keep (NX.out (i + 1) j _ _ h1l h2l h1k rfl)
              clear h1k h1l h2l
              go_wp2_with fail
              refine NN5.out.mono ?_
              rintro e w8 ⟨rfl, hb8⟩
              have FE : Hid (MrgI W3 w1.heap.size w2.heap.size f s fc sc (i + 1) j _ _ w8) := FI.out.below hb8
              clear hb8 NN5
              go_wp2
              go_roundg ((F - (i + 1)) + (G - j))
              case measure => have := HF.out; have := HG.out; omega
              case rel => exact ⟨(i + 1), j, _, rfl, by first | rfl | simp, FE.out⟩
        | cons x2 t2 =>
          by_cases hah : Mg.ahead x2.e x.e = true
          · have hr' : u7 = .pointer (some ⟨w2.heap.size, 0, none⟩) := by rw [hr, hD, hE]; simp only [List.map_cons, pick]; rw [if_pos hah]
            obtain ⟨y, hy⟩ : ∃ y, y = x2 := ⟨_, rfl⟩
            obtain ⟨t, htt⟩ : ∃ t, t = t2 := ⟨_, rfl⟩
            rw [← hy, ← htt] at hE
            rw [← hy] at hah
            have TW := hI.out.two
            have hstep := (show Mg.Two (f.map (·.e)) (s.map (·.e)) (O.map (·.e)) ((f.drop i).map (·.e)) (y.e :: t.map (·.e)) from by rw [hE] at TW; exact TW).takeB MR1.out.up MR2.out.up (fun a ha => by rw [hD] at ha; cases ha; exact hah)
            rw [hr']
            have hD0 := hD
            clear hr hr' TW hD hah hy htt
            have hD := hE
            clear hE hD0
            obtain ⟨ht, hlt, hmem⟩ := drop_cons hD
            obtain ⟨p1, a1, a2, a3⟩ := hI.out.l2.at_
            have nz : 0 < (s.length - j) := by omega
            obtain ⟨d, o, rfl, _, _⟩ := a2.form entKind_ok nz
            have R1 := keep (a2.keptU HK.out (fun ad had hu => by rcases hu with h | h; exact (a3 ad had).1 h; exact (a3 ad had).2 h) (fun z hz => SH.out z (List.mem_of_mem_drop hz) wr HBW.out))
            have A1 := keep a1
            have A2 := keep a2
            have A3 := keep (a3 _ rfl)
            have TK := keep (take_any w2.heap.size d o (s.length - j) (sc - j) 1 (s.drop j) wr a1 R1.out (by omega) (Nat.le_trans (Nat.sub_le _ _) SC.out))
            rw [show ((1 : Nat) : Int) = 1 from rfl] at TK
            have hy0 : (s.drop j)[0]? = some y := by rw [hD]; rfl
            have YH := keep (R1.out.held y (List.mem_of_getElem? hy0))
            have YM := keep hmem
            have PT := keep hstep
            have HD := keep hD
            have HT1 := keep ht
            have hlt2 := hlt
            have OL0 := keep hI.out.l1
            clear a1 a2 a3 nz ht hlt hmem hstep hD
            go_wp2_with fail
            refine TK.out.mono ?_
            rintro e wt ⟨p', rfl, hwt, hp'⟩
            have HP' := keep hp'
            have KT : Hid (Kept (fun g => g = w1.heap.size ∨ g = w2.heap.size) W3 wt) := by rw [hwt]; exact HK.out.setCell (.inl (.inr rfl)) _
            have BT := keep (KB.out wt KT.out)
            have LT1 : Hid (Live W3 wt w2.heap.size w1.heap.size w2.heap.size (s.length - (j + 1)) (sc - (j + 1)) (s.drop (j + 1))) := by
              refine ⟨p', ?_, ?_, ?_⟩
              · rw [hwt]
                have := A1.out.set p' (s.length - j - 1) (sc - j - 1)
                rwa [Nat.sub_sub, Nat.sub_sub] at this
              · have := A2.out.after (by omega) hp'
                rwa [Nat.sub_sub, Nat.sub_sub, List.drop_drop] at this
              · intro ad had
                rcases hp' with ⟨h, _⟩ | ⟨h, _⟩
                · rw [h] at had; cases had; exact A3.out
                · rw [h] at had; cases had; exact A3.out
            have LT2 : Hid (Live W3 wt w1.heap.size w1.heap.size w2.heap.size (f.length - i) (fc - i) (f.drop i)) := OL0.out.keep (by rw [hwt]; exact set_far _ _ (by have := z12.out; omega))
            have RT : Hid (RSrc entKind wt (some ⟨d, o, none⟩) 1 (sc - j) [y]) := by
              have h1 := R1.out.head entKind_ok 1 (by omega)
              rw [HD.out] at h1
              exact h1.grown (by rw [hwt]; exact set_grown wr w2.heap.size 0 _) (fun ad had e => by cases had; exact A3.out.2 (Option.some.inj e)) (fun z hz => (List.mem_singleton.1 hz) ▸ SH.out y YM.out wt BT.out)
            have OT : Hid (wt.ownsRow W3.heap.size 36 4 u6 O.length (rv entKind O)) := own_block hI.out.row (fun g hg => by rw [hwt]; exact set_far _ _ (by have h1 := (hI.out.row.lt g hg).1; have h2 := z12.out; rw [s3.out] at h1; omega))
            have OM := keep hI.out.mem
            clear hwt hp' TK R1 A1 A2 HBW HK OL0
            obtain ⟨r0, r1, r2, r3⟩ := ent_cells RT.out (i := 0) (x := y) rfl
            simp only [Nat.zero_mul, Nat.add_zero] at r0 r1 r2 r3
            obtain ⟨CQ, hCQ⟩ : ∃ q, (sc - j) = q := ⟨_, rfl⟩
            rw [hCQ] at RT ⊢
            clear hCQ
            -- both ends
            have NEXT : Hid (∀ O' v' w6, Kept (fun g => g = w1.heap.size ∨ g = w2.heap.size) W3 w6 → (∀ g : Nat, g < W3.heap.size → w6.heap[g]? = wt.heap[g]?) → w6.ownsRow W3.heap.size 36 4 v' O'.length (rv entKind O') → (∀ z ∈ O', z ∈ f ∨ z ∈ s) → O'.length ≤ i + j + 1 → Mg.Two (f.map (·.e)) (s.map (·.e)) (O'.map (·.e)) ((f.drop i).map (·.e)) ((s.drop (j + 1)).map (·.e)) → MrgI W3 w1.heap.size w2.heap.size f s fc sc i (j + 1) O' v' w6) := fun O' v' w6 h1 h2 h3 h4 h5 h6 => by
              have q1 := LT1.out.keep (h2 w2.heap.size (by have := z12.out; rw [s3.out]; omega))
              have q2 := LT2.out.keep (h2 w1.heap.size (by have := z12.out; rw [s3.out]; omega))
              exact ⟨by omega, by omega, by omega, h1, q2, q1, h3, h4, h6⟩
            rcases List.eq_nil_or_concat O with h0 | ⟨O0, z, h0⟩
            · have NO : Hid (O.length = 0) := by rw [h0]; rfl
              have TW : Hid (Mg.Two (f.map (·.e)) (s.map (·.e)) ((O ++ [y]).map (·.e)) ((f.drop i).map (·.e)) ((s.drop (j + 1)).map (·.e))) := by
                have := PT.out.1 (by rw [h0]; rfl)
                rw [HT1.out] at this
                rw [List.map_append]
                exact this
              obtain ⟨oa, oc, e6⟩ : ∃ a c, u6 = .slice a 0 c := by
                rcases OT.out.2 with ⟨h, _⟩ | ⟨g, cap, cur, h, _⟩
                · exact ⟨_, _, h⟩
                · exact ⟨_, _, by rw [h, NO.out]⟩
              rw [e6] at OT ⊢
              clear h0 e6
              obtain ⟨ykp, ykc, yvp, yvc, ⟨ykey, yseq, ygone, yval⟩⟩ := y
              go_wp2_with fail
              go_quiet (fail)
              obtain ⟨wq, hwq⟩ : ∃ wq, wt.drewN nq = wq := ⟨_, rfl⟩
              rw [hwq]
              have KQ : Hid (Kept (fun g => g = w1.heap.size ∨ g = w2.heap.size) W3 wq ∧ ∀ g : Nat, wq.heap[g]? = wt.heap[g]?) := by rw [← hwq]; exact ⟨⟨KT.out.os, KT.out.tape, KT.out.output, KT.out.size, KT.out.block⟩, fun _ => rfl⟩
              have OQ : Hid (wq.ownsRow W3.heap.size 36 4 (.slice oa 0 oc) O.length (rv entKind O)) := own_block OT.out (fun g _ => KQ.out.2 g)
              have RQ : Hid (RSrc entKind wq (some ⟨d, o, none⟩) 1 CQ [⟨ykp, ykc, yvp, yvc, ⟨ykey, yseq, ygone, yval⟩⟩]) := by rw [← hwq]; exact RT.out.below entKind_ok (below_drewN (Below.refl _ _) _)
              clear hwq r0 r1 r2 r3
              have RCL := keep RQ.out.cells
              go_wp2_with (at_builtin; go_loud (refine wpList_append_rowsM rfl _ _ 24 36 rfl W3.heap.size i0 _ 4 64 Try.underlying24 hi0 hz0 hz1 hz2 rfl (by decide) (.slice oa 0 oc) O.length (rv entKind O) rfl OQ.out (some ⟨d, o, none⟩) 1 CQ (rv entKind [⟨ykp, ykc, yvp, yvc, ⟨ykey, yseq, ygone, yval⟩⟩]) rfl (fun h => by cases h) rfl RCL.out (rv_one entKind_ok _) (by unfold maxLen; omega) (by omega) KQ.out.1.size ?_); intro v7 w7 ho7 hg7; have HO7 := keep ho7; have HG7 := keep hg7; clear ho7 hg7)
              have FI : Hid (MrgI W3 w1.heap.size w2.heap.size f s fc sc i (j + 1) (O ++ [⟨ykp, ykc, yvp, yvc, ⟨ykey, yseq, ygone, yval⟩⟩]) v7 w7) := by
                refine NEXT.out _ _ _ (KQ.out.1.grown HG7.out (fun k hk => .inr (OQ.out.lt k hk).1)) (fun g hg => ?_) (by rw [List.length_append, rv_append]; exact HO7.out) (fun x hx => ?_) (by rw [List.length_append, List.length_singleton]; omega) TW.out
                · rw [HG7.out.block g (Nat.lt_of_lt_of_le hg KQ.out.1.size) (fun e => by have := (OQ.out.lt g e.symm).1; omega)]
                  exact KQ.out.2 g
                · rcases List.mem_append.1 hx with hx | hx
                  · exact OM.out x hx
                  · rw [List.mem_singleton.1 hx]; exact (.inr YM.out)
              obtain ⟨_, _, _, h1k, h1l, h2l, _, _, _⟩ := FI.out
              have NN5 := keep (NX.out i (j + 1) _ _ h1l h2l h1k rfl)
              clear h1k h1l h2l
              go_wp2_with fail
              refine NN5.out.mono ?_
              rintro e w8 ⟨rfl, hb8⟩
              have FE : Hid (MrgI W3 w1.heap.size w2.heap.size f s fc sc i (j + 1) _ _ w8) := FI.out.below hb8
              clear hb8 NN5
              go_wp2
              go_roundg ((F - i) + (G - (j + 1)))
              case measure => have := HF.out; have := HG.out; omega
              case rel => exact ⟨i, (j + 1), _, rfl, by first | rfl | simp, FE.out⟩
            · rw [List.concat_eq_append] at h0
              have hol : O.length = O0.length + 1 := by rw [h0]; simp
              obtain ⟨LO, hLO⟩ : ∃ L, O0.length = L := ⟨_, rfl⟩
              rw [hLO] at hol
              obtain ⟨og, oc, e6⟩ : ∃ g c, u6 = .slice (some ⟨g, 0, none⟩) (LO + 1) c := by
                rcases OT.out.2 with ⟨_, h⟩ | ⟨g, cap, cur, h, _⟩
                · omega
                · exact ⟨_, _, by rw [h, hol]⟩
              rw [e6] at OT ⊢
              have ZH : entKind.held wt z := by
                rcases OM.out z (by rw [h0]; exact List.mem_append_right _ (List.mem_singleton.2 rfl)) with h | h
                · exact FH.out z h wt BT.out
                · exact SH.out z h wt BT.out
              have hz0 : O[LO]? = some z := by rw [h0, List.getElem?_append_right (by omega), hLO, Nat.sub_self]; rfl
              have OS : RSrc entKind wt (some ⟨og, 0, none⟩) (LO + 1) oc O := by
                have OT2 := OT.out
                rw [hol] at OT2
                obtain ⟨a', c', e', hr', _⟩ := RSrc.own entKind_ok OT2 (fun x hx => by
                  rcases OM.out x hx with h | h
                  · exact FH.out x h wt BT.out
                  · exact SH.out x h wt BT.out)
                cases e'
                exact hr'
              obtain ⟨g0, g1, g2, g3⟩ := ent_cells OS hz0
              simp only [Nat.zero_add] at g0 g1 g2 g3
              have IA : Hid (∀ w', Below wt.heap.size wt w' → Calls Try.prog 24 #[ev z, ev y] w' fun e w'' => e = .returned (.bool (Mg.ahead z.e y.e)) ∧ Below wt.heap.size wt w'') := fun w' hb => by
                refine (isAhead_any z y w' (entKind_ok.below ZH hb) (entKind_ok.below (SH.out y YM.out wt BT.out) hb)).mono ?_
                rintro e w'' ⟨rfl, hb'⟩
                exact ⟨rfl, hb.trans (hb'.mono hb.size)⟩
              have TW := PT.out.2 z.e (by rw [h0, List.map_append]; simp)
              obtain ⟨r, hr⟩ : ∃ r, Mg.ahead z.e y.e = r := ⟨_, rfl⟩
              rw [hr] at IA TW
              rw [HT1.out] at TW
              have TWK := keep TW
              have HOL := keep hol
              clear hr TW h0 hz0 OS ZH e6 hLO hol
              obtain ⟨ykp, ykc, yvp, yvc, ⟨ykey, yseq, ygone, yval⟩⟩ := y
              obtain ⟨zkp, zkc, zvp, zvc, ⟨zkey, zseq, zgone, zval⟩⟩ := z
              unfold ev at IA
              simp only at IA r0 r1 r2 r3 g0 g1 g2 g3
              have k1 : ((LO : Int) + 1 == 0) = false := by
                rw [beq_eq_false_iff_ne]
                omega
              have k2 : ¬ ((LO : Int) + 1 = 0) := by omega
              have k3 : (LO : Int) < (LO : Int) + 1 := by omega
              have k4 : (0 : Int) ≤ (LO : Int) := by omega
              have k5 : (LO : Int) ≤ 1000000 := by have := HOL.out; omega
              have lw : IntKind.i64.wrap ((LO : Int)) = (LO : Int) := wrap_small _ (by omega) (by omega)
              go_wp2_with fail
              go_region_held3 (fun w' => w'.cell? ⟨og, LO * 4, none⟩ = some (.slice zkp zkey.length zkc) ∧ w'.cell? ⟨og, LO * 4 + 1, none⟩ = some (.int .i64 zseq) ∧ w'.cell? ⟨og, LO * 4 + 2, none⟩ = some (.bool zgone) ∧ w'.cell? ⟨og, LO * 4 + 3, none⟩ = some (.slice zvp zval.length zvc) ∧ w'.cell? ⟨d, o, none⟩ = some (.slice ykp ykey.length ykc) ∧ w'.cell? ⟨d, o + 1, none⟩ = some (.int .i64 yseq) ∧ w'.cell? ⟨d, o + 2, none⟩ = some (.bool ygone) ∧ w'.cell? ⟨d, o + 3, none⟩ = some (.slice yvp yval.length yvc))
                (first | exact ⟨g0, g1, g2, g3, r0, r1, r2, r3⟩ | exact ⟨below_cell b4.out g0, below_cell b4.out g1, below_cell b4.out g2, below_cell b4.out g3, below_cell b4.out r0, below_cell b4.out r1, below_cell b4.out r2, below_cell b4.out r3⟩)
                ((go_at_call 24; refine (IA.out _ ((Below.refl _ _).drew)).mono ?_; rintro e w4' ⟨rfl, hb4⟩; have b4 := keep hb4; clear hb4))
              have B4 := keep (b4.out)
              have K4 : Hid (Kept (fun g => g = w1.heap.size ∨ g = w2.heap.size) W3 w4' ∧ ∀ g : Nat, g < W3.heap.size → w4'.heap[g]? = wt.heap[g]?) := ⟨KT.out.trans (Kept.of_below B4.out), fun g hg => B4.out.block g (Nat.lt_of_lt_of_le hg KT.out.size)⟩
              have O4 : Hid (w4'.ownsRow W3.heap.size 36 4 (.slice (some ⟨og, 0, none⟩) (LO + 1) oc) O.length (rv entKind O)) := own_block OT.out (fun g hg => B4.out.block g (own_size OT.out hg))
              have R4 := keep (RT.out.below entKind_ok B4.out)
              clear r0 r1 r2 r3 g0 g1 g2 g3
              cases r with
              | true =>
                have RCL := keep R4.out.cells
                go_wp2_with (at_builtin; go_loud (refine wpList_append_rowsM rfl _ _ 24 36 rfl W3.heap.size i0 _ 4 64 Try.underlying24 hi0 hz0 hz1 hz2 rfl (by decide) (.slice (some ⟨og, 0, none⟩) (LO + 1) oc) O.length (rv entKind O) rfl O4.out (some ⟨d, o, none⟩) 1 CQ (rv entKind [⟨ykp, ykc, yvp, yvc, ⟨ykey, yseq, ygone, yval⟩⟩]) rfl (fun h => by cases h) rfl RCL.out (rv_one entKind_ok _) (by unfold maxLen; omega) (by omega) K4.out.1.size ?_); intro v7 w7 ho7 hg7; have HO7 := keep ho7; have HG7 := keep hg7; clear ho7 hg7)
                have FI : Hid (MrgI W3 w1.heap.size w2.heap.size f s fc sc i (j + 1) (O ++ [⟨ykp, ykc, yvp, yvc, ⟨ykey, yseq, ygone, yval⟩⟩]) v7 w7) := by
                  refine NEXT.out _ _ _ (K4.out.1.grown HG7.out (fun k hk => .inr (O4.out.lt k hk).1)) (fun g hg => ?_) (by rw [List.length_append, rv_append]; exact HO7.out) (fun x hx => ?_) (by rw [List.length_append, List.length_singleton]; omega) (by rw [List.map_append]; exact TWK.out.1 (by simp))
                  · rw [HG7.out.block g (Nat.lt_of_lt_of_le hg K4.out.1.size) (fun e => by have := (O4.out.lt g e.symm).1; omega)]
                    exact K4.out.2 g hg
                  · rcases List.mem_append.1 hx with hx | hx
                    · exact OM.out x hx
                    · rw [List.mem_singleton.1 hx]; exact (.inr YM.out)
                obtain ⟨_, _, _, h1k, h1l, h2l, _, _, _⟩ := FI.out
                have NN5 := keep (NX.out i (j + 1) _ _ h1l h2l h1k rfl)
                clear h1k h1l h2l
                go_wp2_with fail
                refine NN5.out.mono ?_
                rintro e w8 ⟨rfl, hb8⟩
                have FE : Hid (MrgI W3 w1.heap.size w2.heap.size f s fc sc i (j + 1) _ _ w8) := FI.out.below hb8
                clear hb8 NN5
                go_wp2
                go_roundg ((F - i) + (G - (j + 1)))
                case measure => have := HF.out; have := HG.out; omega
                case rel => exact ⟨i, (j + 1), _, rfl, by first | rfl | simp, FE.out⟩
              | false =>
                have FI := keep (NEXT.out O _ w4' K4.out.1 K4.out.2 O4.out OM.out (by omega) (TWK.out.2 (by simp)))
                obtain ⟨_, _, _, h1k, h1l, h2l, _, _, _⟩ := FI.out
                have NN5 := keep (NX.out i (j + 1) _ _ h1l h2l h1k rfl)
                clear h1k h1l h2l
                go_wp2_with fail
                refine NN5.out.mono ?_
                rintro e w8 ⟨rfl, hb8⟩
                have FE : Hid (MrgI W3 w1.heap.size w2.heap.size f s fc sc i (j + 1) _ _ w8) := FI.out.below hb8
                clear hb8 NN5
                go_wp2
                go_roundg ((F - i) + (G - (j + 1)))
                case measure => have := HF.out; have := HG.out; omega
                case rel => exact ⟨i, (j + 1), _, rfl, by first | rfl | simp, FE.out⟩
          · have hr' : u7 = .pointer (some ⟨w1.heap.size, 0, none⟩) := by rw [hr, hD, hE]; simp only [List.map_cons, pick]; rw [if_neg hah]
            obtain ⟨y, hy⟩ : ∃ y, y = x := ⟨_, rfl⟩
            obtain ⟨t, htt⟩ : ∃ t, t = t0 := ⟨_, rfl⟩
            rw [← hy, ← htt] at hD
            rw [← hy] at hah
            have TW := hI.out.two
            have hstep := (show Mg.Two (f.map (·.e)) (s.map (·.e)) (O.map (·.e)) (y.e :: t.map (·.e)) ((s.drop j).map (·.e)) from by rw [hD] at TW; exact TW).takeA MR1.out.up MR2.out.up (fun a ha => by rw [hE] at ha; cases ha; exact Bool.eq_false_iff.2 hah)
            rw [hr']
            clear hr hr' TW hE hah hy htt
            obtain ⟨ht, hlt, hmem⟩ := drop_cons hD
            obtain ⟨p1, a1, a2, a3⟩ := hI.out.l1.at_
            have nz : 0 < (f.length - i) := by omega
            obtain ⟨d, o, rfl, _, _⟩ := a2.form entKind_ok nz
            have R1 := keep (a2.keptU HK.out (fun ad had hu => by rcases hu with h | h; exact (a3 ad had).1 h; exact (a3 ad had).2 h) (fun z hz => FH.out z (List.mem_of_mem_drop hz) wr HBW.out))
            have A1 := keep a1
            have A2 := keep a2
            have A3 := keep (a3 _ rfl)
            have TK := keep (take_any w1.heap.size d o (f.length - i) (fc - i) 1 (f.drop i) wr a1 R1.out (by omega) (Nat.le_trans (Nat.sub_le _ _) FC.out))
            rw [show ((1 : Nat) : Int) = 1 from rfl] at TK
            have hy0 : (f.drop i)[0]? = some y := by rw [hD]; rfl
            have YH := keep (R1.out.held y (List.mem_of_getElem? hy0))
            have YM := keep hmem
            have PT := keep hstep
            have HD := keep hD
            have HT1 := keep ht
            have hlt2 := hlt
            have OL0 := keep hI.out.l2
            clear a1 a2 a3 nz ht hlt hmem hstep hD
            go_wp2_with fail
            refine TK.out.mono ?_
            rintro e wt ⟨p', rfl, hwt, hp'⟩
            have HP' := keep hp'
            have KT : Hid (Kept (fun g => g = w1.heap.size ∨ g = w2.heap.size) W3 wt) := by rw [hwt]; exact HK.out.setCell (.inl (.inl rfl)) _
            have BT := keep (KB.out wt KT.out)
            have LT1 : Hid (Live W3 wt w1.heap.size w1.heap.size w2.heap.size (f.length - (i + 1)) (fc - (i + 1)) (f.drop (i + 1))) := by
              refine ⟨p', ?_, ?_, ?_⟩
              · rw [hwt]
                have := A1.out.set p' (f.length - i - 1) (fc - i - 1)
                rwa [Nat.sub_sub, Nat.sub_sub] at this
              · have := A2.out.after (by omega) hp'
                rwa [Nat.sub_sub, Nat.sub_sub, List.drop_drop] at this
              · intro ad had
                rcases hp' with ⟨h, _⟩ | ⟨h, _⟩
                · rw [h] at had; cases had; exact A3.out
                · rw [h] at had; cases had; exact A3.out
            have LT2 : Hid (Live W3 wt w2.heap.size w1.heap.size w2.heap.size (s.length - j) (sc - j) (s.drop j)) := OL0.out.keep (by rw [hwt]; exact set_far _ _ (by have := z12.out; omega))
            have RT : Hid (RSrc entKind wt (some ⟨d, o, none⟩) 1 (fc - i) [y]) := by
              have h1 := R1.out.head entKind_ok 1 (by omega)
              rw [HD.out] at h1
              exact h1.grown (by rw [hwt]; exact set_grown wr w1.heap.size 0 _) (fun ad had e => by cases had; exact A3.out.1 (Option.some.inj e)) (fun z hz => (List.mem_singleton.1 hz) ▸ FH.out y YM.out wt BT.out)
            have OT : Hid (wt.ownsRow W3.heap.size 36 4 u6 O.length (rv entKind O)) := own_block hI.out.row (fun g hg => by rw [hwt]; exact set_far _ _ (by have h1 := (hI.out.row.lt g hg).1; have h2 := z12.out; rw [s3.out] at h1; omega))
            have OM := keep hI.out.mem
            clear hwt hp' TK R1 A1 A2 HBW HK OL0
            obtain ⟨r0, r1, r2, r3⟩ := ent_cells RT.out (i := 0) (x := y) rfl
            simp only [Nat.zero_mul, Nat.add_zero] at r0 r1 r2 r3
            obtain ⟨CQ, hCQ⟩ : ∃ q, (fc - i) = q := ⟨_, rfl⟩
            rw [hCQ] at RT ⊢
            clear hCQ
            -- both ends
            have NEXT : Hid (∀ O' v' w6, Kept (fun g => g = w1.heap.size ∨ g = w2.heap.size) W3 w6 → (∀ g : Nat, g < W3.heap.size → w6.heap[g]? = wt.heap[g]?) → w6.ownsRow W3.heap.size 36 4 v' O'.length (rv entKind O') → (∀ z ∈ O', z ∈ f ∨ z ∈ s) → O'.length ≤ i + j + 1 → Mg.Two (f.map (·.e)) (s.map (·.e)) (O'.map (·.e)) ((f.drop (i + 1)).map (·.e)) ((s.drop j).map (·.e)) → MrgI W3 w1.heap.size w2.heap.size f s fc sc (i + 1) j O' v' w6) := fun O' v' w6 h1 h2 h3 h4 h5 h6 => by
              have q1 := LT1.out.keep (h2 w1.heap.size (by have := z12.out; rw [s3.out]; omega))
              have q2 := LT2.out.keep (h2 w2.heap.size (by have := z12.out; rw [s3.out]; omega))
              exact ⟨by omega, by omega, by omega, h1, q1, q2, h3, h4, h6⟩
            rcases List.eq_nil_or_concat O with h0 | ⟨O0, z, h0⟩
            · have NO : Hid (O.length = 0) := by rw [h0]; rfl
              have TW : Hid (Mg.Two (f.map (·.e)) (s.map (·.e)) ((O ++ [y]).map (·.e)) ((f.drop (i + 1)).map (·.e)) ((s.drop j).map (·.e))) := by
                have := PT.out.1 (by rw [h0]; rfl)
                rw [HT1.out] at this
                rw [List.map_append]
                exact this
              obtain ⟨oa, oc, e6⟩ : ∃ a c, u6 = .slice a 0 c := by
                rcases OT.out.2 with ⟨h, _⟩ | ⟨g, cap, cur, h, _⟩
                · exact ⟨_, _, h⟩
                · exact ⟨_, _, by rw [h, NO.out]⟩
              rw [e6] at OT ⊢
              clear h0 e6
              obtain ⟨ykp, ykc, yvp, yvc, ⟨ykey, yseq, ygone, yval⟩⟩ := y
              go_wp2_with fail
              go_quiet (fail)
              obtain ⟨wq, hwq⟩ : ∃ wq, wt.drewN nq = wq := ⟨_, rfl⟩
              rw [hwq]
              have KQ : Hid (Kept (fun g => g = w1.heap.size ∨ g = w2.heap.size) W3 wq ∧ ∀ g : Nat, wq.heap[g]? = wt.heap[g]?) := by rw [← hwq]; exact ⟨⟨KT.out.os, KT.out.tape, KT.out.output, KT.out.size, KT.out.block⟩, fun _ => rfl⟩
              have OQ : Hid (wq.ownsRow W3.heap.size 36 4 (.slice oa 0 oc) O.length (rv entKind O)) := own_block OT.out (fun g _ => KQ.out.2 g)
              have RQ : Hid (RSrc entKind wq (some ⟨d, o, none⟩) 1 CQ [⟨ykp, ykc, yvp, yvc, ⟨ykey, yseq, ygone, yval⟩⟩]) := by rw [← hwq]; exact RT.out.below entKind_ok (below_drewN (Below.refl _ _) _)
              clear hwq r0 r1 r2 r3
              have RCL := keep RQ.out.cells
              go_wp2_with (at_builtin; go_loud (refine wpList_append_rowsM rfl _ _ 24 36 rfl W3.heap.size i0 _ 4 64 Try.underlying24 hi0 hz0 hz1 hz2 rfl (by decide) (.slice oa 0 oc) O.length (rv entKind O) rfl OQ.out (some ⟨d, o, none⟩) 1 CQ (rv entKind [⟨ykp, ykc, yvp, yvc, ⟨ykey, yseq, ygone, yval⟩⟩]) rfl (fun h => by cases h) rfl RCL.out (rv_one entKind_ok _) (by unfold maxLen; omega) (by omega) KQ.out.1.size ?_); intro v7 w7 ho7 hg7; have HO7 := keep ho7; have HG7 := keep hg7; clear ho7 hg7)
              have FI : Hid (MrgI W3 w1.heap.size w2.heap.size f s fc sc (i + 1) j (O ++ [⟨ykp, ykc, yvp, yvc, ⟨ykey, yseq, ygone, yval⟩⟩]) v7 w7) := by
                refine NEXT.out _ _ _ (KQ.out.1.grown HG7.out (fun k hk => .inr (OQ.out.lt k hk).1)) (fun g hg => ?_) (by rw [List.length_append, rv_append]; exact HO7.out) (fun x hx => ?_) (by rw [List.length_append, List.length_singleton]; omega) TW.out
                · rw [HG7.out.block g (Nat.lt_of_lt_of_le hg KQ.out.1.size) (fun e => by have := (OQ.out.lt g e.symm).1; omega)]
                  exact KQ.out.2 g
                · rcases List.mem_append.1 hx with hx | hx
                  · exact OM.out x hx
                  · rw [List.mem_singleton.1 hx]; exact (.inl YM.out)
              obtain ⟨_, _, _, h1k, h1l, h2l, _, _, _⟩ := FI.out
              have NN5 := keep (NX.out (i + 1) j _ _ h1l h2l h1k rfl)
              clear h1k h1l h2l
              go_wp2_with fail
              refine NN5.out.mono ?_
              rintro e w8 ⟨rfl, hb8⟩
              have FE : Hid (MrgI W3 w1.heap.size w2.heap.size f s fc sc (i + 1) j _ _ w8) := FI.out.below hb8
              clear hb8 NN5
              go_wp2
              go_roundg ((F - (i + 1)) + (G - j))
              case measure => have := HF.out; have := HG.out; omega
              case rel => exact ⟨(i + 1), j, _, rfl, by first | rfl | simp, FE.out⟩
            · rw [List.concat_eq_append] at h0
              have hol : O.length = O0.length + 1 := by rw [h0]; simp
              obtain ⟨LO, hLO⟩ : ∃ L, O0.length = L := ⟨_, rfl⟩
              rw [hLO] at hol
              obtain ⟨og, oc, e6⟩ : ∃ g c, u6 = .slice (some ⟨g, 0, none⟩) (LO + 1) c := by
                rcases OT.out.2 with ⟨_, h⟩ | ⟨g, cap, cur, h, _⟩
                · omega
                · exact ⟨_, _, by rw [h, hol]⟩
              rw [e6] at OT ⊢
              have ZH : entKind.held wt z := by
                rcases OM.out z (by rw [h0]; exact List.mem_append_right _ (List.mem_singleton.2 rfl)) with h | h
                · exact FH.out z h wt BT.out
                · exact SH.out z h wt BT.out
              have hz0 : O[LO]? = some z := by rw [h0, List.getElem?_append_right (by omega), hLO, Nat.sub_self]; rfl
              have OS : RSrc entKind wt (some ⟨og, 0, none⟩) (LO + 1) oc O := by
                have OT2 := OT.out
                rw [hol] at OT2
                obtain ⟨a', c', e', hr', _⟩ := RSrc.own entKind_ok OT2 (fun x hx => by
                  rcases OM.out x hx with h | h
                  · exact FH.out x h wt BT.out
                  · exact SH.out x h wt BT.out)
                cases e'
                exact hr'
              obtain ⟨g0, g1, g2, g3⟩ := ent_cells OS hz0
              simp only [Nat.zero_add] at g0 g1 g2 g3
              have IA : Hid (∀ w', Below wt.heap.size wt w' → Calls Try.prog 24 #[ev z, ev y] w' fun e w'' => e = .returned (.bool (Mg.ahead z.e y.e)) ∧ Below wt.heap.size wt w'') := fun w' hb => by
                refine (isAhead_any z y w' (entKind_ok.below ZH hb) (entKind_ok.below (FH.out y YM.out wt BT.out) hb)).mono ?_
                rintro e w'' ⟨rfl, hb'⟩
                exact ⟨rfl, hb.trans (hb'.mono hb.size)⟩
              have TW := PT.out.2 z.e (by rw [h0, List.map_append]; simp)
              obtain ⟨r, hr⟩ : ∃ r, Mg.ahead z.e y.e = r := ⟨_, rfl⟩
              rw [hr] at IA TW
              rw [HT1.out] at TW
              have TWK := keep TW
              have HOL := keep hol
              clear hr TW h0 hz0 OS ZH e6 hLO hol
              obtain ⟨ykp, ykc, yvp, yvc, ⟨ykey, yseq, ygone, yval⟩⟩ := y
              obtain ⟨zkp, zkc, zvp, zvc, ⟨zkey, zseq, zgone, zval⟩⟩ := z
              unfold ev at IA
              simp only at IA r0 r1 r2 r3 g0 g1 g2 g3
              have k1 : ((LO : Int) + 1 == 0) = false := by
                rw [beq_eq_false_iff_ne]
                omega
              have k2 : ¬ ((LO : Int) + 1 = 0) := by omega
              have k3 : (LO : Int) < (LO : Int) + 1 := by omega
              have k4 : (0 : Int) ≤ (LO : Int) := by omega
              have k5 : (LO : Int) ≤ 1000000 := by have := HOL.out; omega
              have lw : IntKind.i64.wrap ((LO : Int)) = (LO : Int) := wrap_small _ (by omega) (by omega)
              go_wp2_with fail
              go_region_held3 (fun w' => w'.cell? ⟨og, LO * 4, none⟩ = some (.slice zkp zkey.length zkc) ∧ w'.cell? ⟨og, LO * 4 + 1, none⟩ = some (.int .i64 zseq) ∧ w'.cell? ⟨og, LO * 4 + 2, none⟩ = some (.bool zgone) ∧ w'.cell? ⟨og, LO * 4 + 3, none⟩ = some (.slice zvp zval.length zvc) ∧ w'.cell? ⟨d, o, none⟩ = some (.slice ykp ykey.length ykc) ∧ w'.cell? ⟨d, o + 1, none⟩ = some (.int .i64 yseq) ∧ w'.cell? ⟨d, o + 2, none⟩ = some (.bool ygone) ∧ w'.cell? ⟨d, o + 3, none⟩ = some (.slice yvp yval.length yvc))
                (first | exact ⟨g0, g1, g2, g3, r0, r1, r2, r3⟩ | exact ⟨below_cell b4.out g0, below_cell b4.out g1, below_cell b4.out g2, below_cell b4.out g3, below_cell b4.out r0, below_cell b4.out r1, below_cell b4.out r2, below_cell b4.out r3⟩)
                ((go_at_call 24; refine (IA.out _ ((Below.refl _ _).drew)).mono ?_; rintro e w4' ⟨rfl, hb4⟩; have b4 := keep hb4; clear hb4))
              have B4 := keep (b4.out)
              have K4 : Hid (Kept (fun g => g = w1.heap.size ∨ g = w2.heap.size) W3 w4' ∧ ∀ g : Nat, g < W3.heap.size → w4'.heap[g]? = wt.heap[g]?) := ⟨KT.out.trans (Kept.of_below B4.out), fun g hg => B4.out.block g (Nat.lt_of_lt_of_le hg KT.out.size)⟩
              have O4 : Hid (w4'.ownsRow W3.heap.size 36 4 (.slice (some ⟨og, 0, none⟩) (LO + 1) oc) O.length (rv entKind O)) := own_block OT.out (fun g hg => B4.out.block g (own_size OT.out hg))
              have R4 := keep (RT.out.below entKind_ok B4.out)
              clear r0 r1 r2 r3 g0 g1 g2 g3
              cases r with
              | true =>
                have RCL := keep R4.out.cells
                go_wp2_with (at_builtin; go_loud (refine wpList_append_rowsM rfl _ _ 24 36 rfl W3.heap.size i0 _ 4 64 Try.underlying24 hi0 hz0 hz1 hz2 rfl (by decide) (.slice (some ⟨og, 0, none⟩) (LO + 1) oc) O.length (rv entKind O) rfl O4.out (some ⟨d, o, none⟩) 1 CQ (rv entKind [⟨ykp, ykc, yvp, yvc, ⟨ykey, yseq, ygone, yval⟩⟩]) rfl (fun h => by cases h) rfl RCL.out (rv_one entKind_ok _) (by unfold maxLen; omega) (by omega) K4.out.1.size ?_); intro v7 w7 ho7 hg7; have HO7 := keep ho7; have HG7 := keep hg7; clear ho7 hg7)
                have FI : Hid (MrgI W3 w1.heap.size w2.heap.size f s fc sc (i + 1) j (O ++ [⟨ykp, ykc, yvp, yvc, ⟨ykey, yseq, ygone, yval⟩⟩]) v7 w7) := by
                  refine NEXT.out _ _ _ (K4.out.1.grown HG7.out (fun k hk => .inr (O4.out.lt k hk).1)) (fun g hg => ?_) (by rw [List.length_append, rv_append]; exact HO7.out) (fun x hx => ?_) (by rw [List.length_append, List.length_singleton]; omega) (by rw [List.map_append]; exact TWK.out.1 (by simp))
                  · rw [HG7.out.block g (Nat.lt_of_lt_of_le hg K4.out.1.size) (fun e => by have := (O4.out.lt g e.symm).1; omega)]
                    exact K4.out.2 g hg
                  · rcases List.mem_append.1 hx with hx | hx
                    · exact OM.out x hx
                    · rw [List.mem_singleton.1 hx]; exact (.inl YM.out)
                obtain ⟨_, _, _, h1k, h1l, h2l, _, _, _⟩ := FI.out
                have NN5 := keep (NX.out (i + 1) j _ _ h1l h2l h1k rfl)
                clear h1k h1l h2l
                go_wp2_with fail
                refine NN5.out.mono ?_
                rintro e w8 ⟨rfl, hb8⟩
                have FE : Hid (MrgI W3 w1.heap.size w2.heap.size f s fc sc (i + 1) j _ _ w8) := FI.out.below hb8
                clear hb8 NN5
                go_wp2
                go_roundg ((F - (i + 1)) + (G - j))
                case measure => have := HF.out; have := HG.out; omega
                case rel => exact ⟨(i + 1), j, _, rfl, by first | rfl | simp, FE.out⟩
              | false =>
                have FI := keep (NEXT.out O _ w4' K4.out.1 K4.out.2 O4.out OM.out (by omega) (TWK.out.2 (by simp)))
                obtain ⟨_, _, _, h1k, h1l, h2l, _, _, _⟩ := FI.out
                have NN5 := keep (NX.out (i + 1) j _ _ h1l h2l h1k rfl)
                clear h1k h1l h2l
                go_wp2_with fail
                refine NN5.out.mono ?_
                rintro e w8 ⟨rfl, hb8⟩
                have FE : Hid (MrgI W3 w1.heap.size w2.heap.size f s fc sc (i + 1) j _ _ w8) := FI.out.below hb8
                clear hb8 NN5
                go_wp2
                go_roundg ((F - (i + 1)) + (G - j))
                case measure => have := HF.out; have := HG.out; omega
                case rel => exact ⟨(i + 1), j, _, rfl, by first | rfl | simp, FE.out⟩
end Go.Proofs.Ytgdggeacjfhkkaa
