/- The walks of slices.Values, of its iterator, of AppendSeq, Collect and Sorted over ints. -/
import Derived.Test.YtbahldabcieiaaaHa
import Derived.Test.YtbahldabcieiaaaB0
namespace Go.Proofs.Ytbahldabcieiaaa
open Go.RowKit Go.Shelf
open Ed (Nt)
attribute [local go_sem] Oper.semAt_some

set_option maxHeartbeats 1000000 in
set_option maxRecDepth 100000 in
theorem values_any (ao : Option Addr) (n c : Nat) (w : World) :
    Calls Try.prog 40 #[.slice ao n c] w fun e w' => e = .returned (.func (.func 64) #[] #[.pointer (some ⟨w.heap.size, 0, none⟩)]) ∧ w' = w.alloc (.cells #[.slice ao n c] 25) := by
  go_enter Try.func40, Try.ntmps40
  go_wp2
  go_ret
  exact ⟨rfl, rfl⟩
/-- What the iterator wants kept: the row that it goes through. -/
def KpV (ao : Option Addr) (W W' : World) : Prop := ∀ ad, ao = some ad → ∀ (p : Addr) v, p.block = ad.block → W.cell? p = some v → W'.cell? p = some v
theorem KpV.t {ao : Option Addr} {A B C : World} (h : KpV ao A B) (k : KpV ao B C) : KpV ao A C := fun ad e p v hp hv => k ad e p v hp (h ad e p v hp hv)
theorem KpV.b {ao : Option Addr} {w : World} (W : World) (l : Nat) (o o' : Obj) (_ : w.heap.size ≤ l) (h : W.heap[l]? = some o) (ho : o.isCells = false) (_ : o.isWalk = false) : KpV ao W (W.putObj l o') :=
  fun _ _ _ _ _ hv => cell_kept hv (grownBy_putObj' W l o') (fun r e => by cases e; exact ⟨o, h, ho⟩)
theorem RSrc.kept {W W' : World} {ao : Option Addr} {n c : Nat} {zs : List Int} (h : RSrc inK W ao n c zs) (hk : KpV ao W W') : RSrc inK W' ao n c zs :=
  ⟨h.len, h.cap, h.nil, fun ad e j u hu => hk ad e _ _ (by first | rfl | (unfold Addr.add; split <;> rfl) | simp [Addr.add]) (h.cells ad e j u hu), fun _ _ => trivial⟩
theorem int_cell {w : World} {b off n c : Nat} {zs : List Int} (h : RSrc inK w (some ⟨b, off, none⟩) n c zs) {k : Nat} (hk : k < n) : w.cell? ⟨b, off + k, none⟩ = some (.int .i64 (zs.getD k 0)) := by
  have hl := h.len
  have e : zs[k]? = some (zs.getD k 0) := by rw [List.getD_eq_getElem?_getD, List.getElem?_eq_getElem (by omega)]; rfl
  have := h.cells _ rfl (k * inK.size + 0) (.int .i64 (zs.getD k 0)) ((rv_at inK_ok 0 e (by decide)).trans rfl)
  rw [Addr.add_mid] at this
  simpa [inK] using this
set_option maxHeartbeats 4000000 in
set_option maxRecDepth 100000 in
theorem values1_in (nn : Nat) (hn : 1 ≤ nn) (l Bs : Nat) (ao : Option Addr) (n c : Nat) (zs : List Int) (hnb : n ≤ 1000000) (J Jx : List Nat → World → Prop) (W : World)
    (hJ : AbidesFrom W.heap.size J)
    (hY : ∀ pre x W1, J pre W1 → pre.length < n → YieldAt Fence.wide (nn - 1) Try.prog l #[.int .i64 (zs.getD x 0)] W1 fun e W' =>
      (e = .returned (.bool true) ∧ J (pre ++ [x]) W' ∧ KpV ao W1 W') ∨ (e = .returned (.bool false) ∧ Jx (pre ++ [x]) W'))
    (hBs : W.cell? ⟨Bs, 0, none⟩ = some (.slice ao n c)) (hsrc : RSrc inK W ao n c zs) (h0 : J [] W) :
    CallsIn Fence.wide nn Try.prog 64 #[.func (.yield l) #[] #[], .pointer (some ⟨Bs, 0, none⟩)] W fun e W' => (∃ v, e = .returned v) ∧
      ((∃ ys, ys = List.range n ∧ J ys W') ∨ (∃ pre, (∃ k, k ≤ n ∧ pre = List.range k) ∧ Jx pre W')) := by
  have HJ := keep hJ
  have HY := keep hY
  have H0 := keep h0
  have SR := keep hsrc
  clear hJ hY h0 hsrc
  refine callsIn_of_wp Try.func64 rfl trivial ?_ rfl
  simp only [Try.ntmps64, List.size_toArray, List.length_cons, List.length_nil, Nat.reduceAdd, Nat.reduceSub, Array.replicate_succ, Array.replicate_zero, List.push_toArray, List.append_toArray, List.nil_append, List.cons_append]
  gi_wp2
  gi_loopw [7] (fun i wr => ∃ k : Nat, k ≤ n ∧ i = .int .i64 (k : Int) ∧ Hid (RSrc inK wr ao n c zs) ∧ Hid (J (List.range k) wr)) (fun i _ => n - (intOf i).toNat)
  case atStart => exact ⟨0, by omega, rfl, SR, H0⟩
  case round =>
    clear hBs H0 SR
    obtain ⟨k, hk, rfl, hS, hJk⟩ := hrel
    by_cases hlt : k < n
    · obtain ⟨b, off, rfl, _, _⟩ := hS.out.form inK_ok (by omega)
      obtain ⟨fn, tmps, assign, body, hy, hR⟩ := HY.out _ k wr hJk.out (by rw [List.length_range]; omega)
      have ck := int_cell hS.out hlt
      obtain ⟨Z, hZ⟩ : ∃ Z, zs.getD k 0 = Z := ⟨_, rfl⟩
      rw [hZ] at ck hy
      clear hZ
      have ll : (k : Int) < (n : Int) := by omega
      have ll0 : (0 : Int) ≤ (k : Int) := by omega
      gi_wp2_with fail
      refine hR.mono ?_
      rintro e W3 (⟨rfl, hJ3, hk3⟩ | ⟨rfl, hJx3⟩)
      · have hJ4 : Hid (J (List.range (k + 1)) W3) := by show J _ _; rw [List.range_succ]; exact hJ3
        have hS4 : Hid (RSrc inK W3 (some ⟨b, off, none⟩) n c zs) := hS.out.kept hk3
        clear hJ3 hk3 hJk ck hS
        gi_wp2
        go_roundw
        case rel => exact ⟨k + 1, by omega, by first | go_num | (congr 1; omega), hS4, hJ4⟩
        case measure => simp [intOf]; omega
      · gi_wp2
        refine bodyPost_ret (results_none rfl _ _ _) rfl ?_
        exact ⟨⟨_, rfl⟩, .inr ⟨_, ⟨k + 1, by omega, List.range_succ.symm⟩, hJx3⟩⟩
    · obtain rfl : k = n := by omega
      gi_wp2
      go_end0
      exact ⟨⟨_, rfl⟩, .inl ⟨_, rfl, hJk.out⟩⟩
theorem values_stops (nn : Nat) (hn : 1 ≤ nn) (Bs : Nat) (ao : Option Addr) (n c : Nat) (zs : List Int) (hnb : n ≤ 1000000) (w : World)
    (hBs : w.cell? ⟨Bs, 0, none⟩ = some (.slice ao n c)) (hsrc : RSrc inK w ao n c zs) :
    SeqStopsK Fence.wide nn Try.prog 64 #[.pointer (some ⟨Bs, 0, none⟩)] (fun x : Nat => #[.int .i64 (zs.getD x 0)]) (KpV ao) (fun ys => ys = List.range n) (fun pre => ∃ k, k ≤ n ∧ pre = List.range k) n w :=
  fun l J Jx W hW hJ _ hY h0 => values1_in nn hn l Bs ao n c zs hnb J Jx W hJ hY (belowc hW hBs) (hsrc.below inK_ok hW) h0
theorem own_formI {w : World} {B t k n : Nat} {v : Value} {xs : List Value} (h : w.ownsRow B t k v (n + 1) xs) : ∃ g cap, v = .slice (some ⟨g, 0, none⟩) (n + 1) cap := by
  rcases h.2 with ⟨_, h0⟩ | ⟨g, cap, cur, e, _⟩
  · omega
  · exact ⟨g, cap, e⟩
/-- The ints that have come, in the box. -/
def IntI (w : World) (Bx : Nat) (zs : List Int) (pre : List Nat) (W : World) : Prop :=
  ∃ v, Boxed W Bx 25 v ∧ W.ownsRow w.heap.size 3 1 v pre.length ((pre.map fun x => zs.getD x 0).map (Value.int .i64)) ∧ Below w.heap.size w W
theorem IntI.own {w : World} {Bx B : Nat} {zs : List Int} (hB : w.heap.size ≤ B) : OwnFrom B (IntI w Bx zs) := fun pre W W' row h hg hr => by
  obtain ⟨v, h1, h2, h3⟩ := h
  refine ⟨v, h1.kept hg (fun e => ?_), own_block h2 (fun g hg' => hg.block g (own_size h2 hg') (fun e => ?_)), h3.grown hg h3.size (fun k e => Nat.le_trans hB (hr k e).1)⟩
  · obtain ⟨_, o, ho, hc⟩ := hr _ e.symm
    rw [show W.heap[Bx]? = _ from h1] at ho
    cases ho
    cases hc
  · obtain ⟨_, o, ho, hc⟩ := hr _ e.symm
    obtain ⟨cur, hcur⟩ := own_tag h2 hg'
    rw [hcur] at ho
    cases ho
    cases hc
theorem range_getD (zs : List Int) : (List.range zs.length).map (fun x => zs.getD x 0) = zs := by
  apply List.ext_getElem (by simp)
  intro i h1 h2
  simp [List.getD_eq_getElem?_getD, List.getElem?_eq_getElem h2]
set_option maxHeartbeats 2000000 in
set_option maxRecDepth 100000 in
theorem appendSeqI_any (Bs : Nat) (ao : Option Addr) (n c : Nat) (zs : List Int) (w : World) (hnb : n ≤ 1000000)
    (hBs : w.cell? ⟨Bs, 0, none⟩ = some (.slice ao n c)) (hsrc : RSrc inK w ao n c zs) :
    Calls Try.prog 89 #[.slice none 0 0, .func (.func 64) #[] #[.pointer (some ⟨Bs, 0, none⟩)]] w fun e w' => ∃ v, e = .returned v ∧ w'.ownsRow w.heap.size 3 1 v n (zs.map (Value.int .i64)) ∧ Below w.heap.size w w' := by
  obtain ⟨j0, ji, jz0, jz1, jz2⟩ := info_partsM infoInt
  obtain ⟨W1, hW1⟩ : ∃ W1, w.alloc (.cells #[.slice none 0 0] 25) = W1 := ⟨_, rfl⟩
  have b1 : Hid (Below w.heap.size w W1) := by rw [← hW1]; exact (Below.refl _ _).alloc (Nat.le_refl _) _
  have x1 : Hid (Boxed W1 w.heap.size 25 (.slice none 0 0)) := by rw [← hW1]; exact Boxed.new _ _ _
  have s1 : Hid (w.heap.size ≤ W1.heap.size) := b1.out.size
  have q1 : Hid (W1.cell? ⟨Bs, 0, none⟩ = some (.slice ao n c)) := belowc b1.out hBs
  have q2 : Hid (RSrc inK W1 ao n c zs) := hsrc.below inK_ok b1.out
  have HL := keep hsrc.len
  have lB : Hid (∀ ad, ao = some ad → 0 < n → ad.block < w.heap.size) := fun ad e h0 => by
    obtain ⟨b, off, e2, hlt, _⟩ := hsrc.form inK_ok h0
    rw [e] at e2
    cases e2
    exact hlt
  clear hBs hsrc
  rw [← callsIn_wide (n := 8)]
  refine callsIn_of_wp_marks Try.func89 rfl trivial ?_ rfl
  simp only [Try.ntmps89, List.size_toArray, List.length_cons, List.length_nil, Nat.reduceAdd, Nat.reduceSub, Array.replicate_succ, Array.replicate_zero, List.push_toArray, List.append_toArray, List.nil_append, List.cons_append]
  gi_wp2_with fail
  refine wpIn_rangeFunc_ownG (α := Nat) (F := Fence.wide) rfl (by decide) (gf := 64) (lb := #[.pointer (some ⟨Bs, 0, none⟩)]) rfl trivial (enters_of Try.func64 (by kernel_rfl) rfl)
    (values_stops 7 (by decide) Bs ao n c zs hnb W1 q1.out q2.out) KpV.t KpV.b (Below.refl _ _) (fun _ => rfl)
    (IntI w w.heap.size zs)
    (fun _ _ _ => False)
    (IntI.own s1.out)
    (fun c pre W W' row h hg hr => h)
    ⟨_, x1.out, World.ownsRow_nil _ _ _ _, b1.out⟩
    (fun x => { tmps := #[.slice none 0 0, .func (.func 64) #[] #[.pointer (some ⟨Bs, 0, none⟩)], .pointer (some ⟨w.heap.size, 0, none⟩), undef, .slice none 0 0, .int .i64 (zs.getD x 0), .func (.func 64) #[] #[.pointer (some ⟨Bs, 0, none⟩)], .int .i64 (zs.getD x 0), undef, undef, undef, undef, undef], defers := [] }) ?assign ?body ?done ?stop
  case assign =>
    intro l x W K hK
    gi_wp2
    exact hK
  case body =>
    rintro l pre x W ⟨v, hx, ho, hb⟩ hlen
    have HX := keep hx
    have HO := keep ho
    have HB := keep hb
    have hcell := hx.cell
    have hw := hb.size
    obtain ⟨Z, hZ⟩ : ∃ Z, zs.getD x 0 = Z := ⟨_, rfl⟩
    have HZ := keep hZ
    rw [hZ]
    clear hZ
    have AP : Hid (∀ v' w3, w3.ownsRow w.heap.size 3 1 v' (pre.length + 1) ((pre.map fun x => zs.getD x 0).map (Value.int .i64) ++ [.int .i64 Z]) → (W.alloc (.cells #[.int .i64 Z] 3)).grownBy w3 v.ownBlock → _) := fun v' w3 h1 h2 => Boxed.appended HX.out (by decide) HO.out HB.out.size (Nat.le_refl _) h1 h2
    clear hx ho hb
    gi_wp2_with (gi_at_builtin; refine wpListIn_append_own _ rfl _ _ 25 rfl w.heap.size 3 j0 (.int .i64 0) 1 8 Try.underlying25 ji jz0 jz1 jz2 rfl (by decide) v pre.length _ rfl (HO.out.alloc _) ⟨W.heap.size, 0, none⟩ 1 1 [.int .i64 Z] rfl rfl (cell_one_new _ _ _) (by simp [Value.oneCell']) (by unfold maxLen; omega) (by omega) (by simp; omega) ?_; intro v' w3 hown' hg3 hnil3; obtain ⟨g', cap', rfl⟩ := own_formI hown'; have A3 := keep (AP.out _ w3 hown' hg3); have hc3 := A3.out.1.cell; have hf3 := A3.out.1.frozen; clear hown' hg3 hnil3)
    obtain ⟨_, h2, h3, h4, h5⟩ := A3.out
    refine ⟨h4.from _, fun ad e p u hp hu => ?_, _, h2, ?_, HB.out.trans h5⟩
    · have hlt := lB.out ad e (by omega)
      rw [h5.cell (p := p) (by rw [hp]; exact hlt)]; exact hu
    · rw [List.map_append, List.map_append, List.length_append]
      simp only [List.map_cons, List.map_nil, HZ.out]
      exact h3
  case done =>
    rintro D ys W hD rfl ⟨v, hx, ho, hb⟩ hK
    have hcell := hx.cell
    have HO := keep ho
    have HB := keep hb
    have HK := keep hK
    clear ho hb hK hx
    gi_wp2
    refine leaves_marks (B := w.heap.size) [D] _ ⟨by simp, fun x hx => ?_, fun x hx => ?_⟩ (fun W' hs => ⟨v, ?_, ?_⟩)
    · rw [List.mem_singleton.1 hx]; exact Nat.le_trans s1.out hD
    · rw [List.mem_singleton.1 hx]; exact HK.out
    · simp [results, Try.f89, go_sem]
    · refine ⟨_, rfl, ?_, HB.out.trans (hs.below HB.out.size)⟩
      have := hs.own HO.out
      rw [List.length_range, ← HL.out, range_getD] at this
      rw [← HL.out]
      exact this
  case stop =>
    rintro D c pre W hD _ h hK
    exact h.elim
set_option maxHeartbeats 1000000 in
theorem collectI_any (Bs : Nat) (ao : Option Addr) (n c : Nat) (zs : List Int) (w : World) (hnb : n ≤ 1000000)
    (hBs : w.cell? ⟨Bs, 0, none⟩ = some (.slice ao n c)) (hsrc : RSrc inK w ao n c zs) :
    Calls Try.prog 62 #[.func (.func 64) #[] #[.pointer (some ⟨Bs, 0, none⟩)]] w fun e w' => ∃ v, e = .returned v ∧ w'.ownsRow w.heap.size 3 1 v n (zs.map (Value.int .i64)) ∧ Below w.heap.size w w' := by
  have AS := keep (appendSeqI_any Bs ao n c zs w hnb hBs hsrc)
  clear hBs hsrc
  go_enter Try.func62, Try.ntmps62
  go_wp2_with fail
  refine AS.out.mono ?_
  rintro e w1 ⟨v, rfl, ho, hb⟩
  have HO := keep ho
  have HB := keep hb
  clear ho hb
  go_wp2
  go_ret
  exact ⟨_, rfl, HO.out, HB.out⟩
set_option maxHeartbeats 1000000 in
theorem sortedI_any (Bs : Nat) (ao : Option Addr) (n c : Nat) (zs : List Int) (w : World) (hnb : n ≤ 1000000)
    (hBs : w.cell? ⟨Bs, 0, none⟩ = some (.slice ao n c)) (hsrc : RSrc inK w ao n c zs) :
    Calls Try.prog 39 #[.func (.func 64) #[] #[.pointer (some ⟨Bs, 0, none⟩)]] w fun e w' => ∃ v, e = .returned v ∧ w'.ownsRow w.heap.size 3 1 v n ((Ed.rising zs).map (Value.int .i64)) ∧ Below w.heap.size w w' := by
  have AS := keep (collectI_any Bs ao n c zs w hnb hBs hsrc)
  clear hBs hsrc
  go_enter Try.func39, Try.ntmps39
  go_wp2_with fail
  refine AS.out.mono ?_
  rintro e w1 ⟨v, rfl, ho, hb⟩
  have SO := keep (sortInts_own v n w.heap.size zs w w1 ho hb hb.size hnb)
  clear ho hb
  go_wp2_with fail
  refine SO.out.mono ?_
  rintro e w2 ⟨rfl, ho, hb⟩
  have HO := keep ho
  have HB := keep hb
  clear ho hb
  go_wp2
  go_ret
  exact ⟨_, rfl, HO.out, HB.out⟩
end Go.Proofs.Ytbahldabcieiaaa
