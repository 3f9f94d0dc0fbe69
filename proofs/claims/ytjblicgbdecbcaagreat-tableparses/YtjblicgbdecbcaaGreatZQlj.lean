/- The walk of All the first time. -/
/- The walk of table's Parse. -/
/- What a parsed table holds, in one; what Get, First and Last tell of it, over plain lists; no walk. -/
import Derived.Test.YtjblicgbdecbcaaGreatZQij
namespace Go.Proofs.YtjblicgbdecbcaaGreat
open Go.RowKit Go.Shelf
open Sk (Ent)
attribute [local go_sem] Oper.semAt_some

theorem AskI.small {w W : World} {Bx tb Bt : Nat} {pa : Option Addr} {pc : Nat} {ps : List PE} {Fl : List UInt8} {s : List DE × Nat} (h : AskI w Bx tb Bt pa pc ps Fl s W) (hps : ∀ p ∈ ps, (Tq.pl p.raw).length ≤ 64 ∧ ∀ e ∈ Tq.pl p.raw, e.key.length ≤ 64 ∧ e.val.length ≤ 1024) : ∀ d ∈ s.1, d.ys.length ≤ 64 ∧ ∀ y ∈ d.ys, y.e.key.length ≤ 64 ∧ y.e.val.length ≤ 1024 := fun d hd => by
  have hm : d.ys.map (·.e) ∈ (ps.take s.1.length).map (fun p => Tq.pl p.raw) := by rw [← h.ents]; exact List.mem_map_of_mem (f := fun d : DE => d.ys.map (·.e)) hd
  obtain ⟨p, hp, e⟩ := List.mem_map.1 hm
  have h1 := hps p (List.mem_of_mem_take hp)
  rw [e] at h1
  exact ⟨by simpa using h1.1, fun y hy => h1.2 y.e (List.mem_map_of_mem hy)⟩
theorem evsD_few : ∀ (ds : List DE), (∀ d ∈ ds, d.ys.length ≤ 64) → (evsD ds).length ≤ 64 * ds.length
  | [], _ => Nat.le_refl _
  | d :: ds, h => by
    have h1 := evsD_few ds (fun x hx => h x (List.mem_cons_of_mem _ hx))
    have h2 := h d List.mem_cons_self
    have e : evsD (d :: ds) = d.ys ++ evsD ds := rfl
    rw [e, List.length_append, List.length_cons]
    omega
theorem AskI.held {w W : World} {Bx tb Bt : Nat} {pa : Option Addr} {pc : Nat} {ps : List PE} {Fl : List UInt8} {s : List DE × Nat} (h : AskI w Bx tb Bt pa pc ps Fl s W) (x : Nat) : entKind.held W (nthE s.1 x) := by
  unfold nthE
  rw [List.getD_eq_getElem?_getD]
  cases h0 : (evsD s.1)[x]? with
  | none => exact ⟨Src.empty (fun _ => rfl), Src.empty (fun _ => rfl)⟩
  | some y =>
    obtain ⟨d, hd, hy⟩ := List.mem_flatMap.1 (List.mem_of_getElem? h0)
    exact ((h.done d hd).held y hy).1
theorem AskI.fin {w W : World} {Bx tb Bt : Nat} {pa : Option Addr} {pc : Nat} {ps : List PE} {Fl : List UInt8} {s : List DE × Nat} (h : AskI w Bx tb Bt pa pc ps Fl s W) (hf : s.1.length = ps.length) : TDone W tb s.1 Fl := by
  obtain ⟨fa, fc, h1, h2, h3, _⟩ := h.tab.tab
  have e : s.1.map (·.blk) = ps.map (·.blk) := by rw [h.blks, hf, List.take_length]
  rw [← e, List.length_map] at h1 h2
  exact ⟨⟨pa, pc, fa, fc, h1, h2, h3⟩, fun d hd => (h.done d hd).done⟩
set_option maxHeartbeats 8000000 in
set_option maxRecDepth 100000 in
theorem all_first (tb : Nat) (ps : List PE) (Fl : List UInt8) (w u : World) (hT : TRaw w.heap.size u tb ps Fl) (hwu : Below w.heap.size w u) (hl : ps.length ≤ 64) (hps : ∀ p ∈ ps, (Tq.pl p.raw).length ≤ 64 ∧ ∀ e ∈ Tq.pl p.raw, e.key.length ≤ 64 ∧ e.val.length ≤ 1024) :
    Calls Tryz.prog 17 #[.pointer (some ⟨tb, 0, none⟩)] u fun e w' => ∃ v, e = .returned v ∧ ∃ ds ys, Ents w.heap.size w' v ys ∧ ys.map (·.e) = entsD ds ∧ ds.map (fun d => d.ys.map (·.e)) = ps.map (fun p => Tq.pl p.raw) ∧ TDone w' tb ds Fl ∧ Below w.heap.size w w' := by
  obtain ⟨i0, hi0, hz0, hz1, hz2⟩ := info_parts22q (infoE)
  obtain ⟨pa, pc, fa, fc, t1, t2, t3, t4, t5⟩ := hT.tab
  have TE := keep hT.each
  have TF := keep hT.far
  have TN := keep hT.nodup
  have TB : Hid (∀ W', Below u.heap.size u W' → ∀ Bt, W'.heap[Bt]? = some (.cells #[.pointer (some ⟨tb, 0, none⟩)] 31) → TabOk W' tb Bt pa pc (ps.map (·.blk)) Fl) := fun W' hb Bt hbt => by
    refine ⟨⟨fa, fc, ?_, ?_, t3.below hb, t4.turn (T5.of_below hb), fun ad had => ?_⟩, hbt⟩
    · rw [List.length_map]; exact (hb.block _ (Array.getElem?_eq_some_iff.1 t1).1).trans t1
    · rw [List.length_map]; exact t2.below ptrKind_ok hb
    · obtain ⟨cur, hc⟩ := t5 ad had
      exact ⟨cur, (hb.block _ (Array.getElem?_eq_some_iff.1 hc).1).trans hc⟩
  have HPS := keep hps
  have hBx : w.heap.size ≤ u.heap.size := hwu.size
  have BU := keep hwu
  obtain ⟨W1, hW1⟩ : ∃ W1, u.alloc (.cells #[.slice none 0 0] 22) = W1 := ⟨_, rfl⟩
  have b1 : Hid (Below u.heap.size u W1) := by rw [← hW1]; exact (Below.refl _ _).alloc (Nat.le_refl _) _
  have x1 : Hid (Boxed W1 u.heap.size 22 (.slice none 0 0)) := by rw [← hW1]; exact Boxed.new _ _ _
  have HW1 := keep hW1
  clear hT hW1 hps t1 t2 t3 t4 t5 hwu
  rw [← callsIn_wide (n := 8)]
  refine callsIn_of_wp_marks Tryz.func17 rfl trivial ?_ rfl
  simp only [Tryz.ntmps17, List.size_toArray, List.length_cons, List.length_nil, Nat.reduceAdd, Nat.reduceSub, Array.replicate_succ, Array.replicate_zero, List.push_toArray, List.append_toArray, List.nil_append, List.cons_append]
  gi_wp2_with fail
  refine ⟨trivial, ?_⟩
  rw [HW1.out]
  refine (callsIn_wide.2 (each_any tb W1)).mono ?_
  rintro e w9 ⟨rfl, hw9⟩
  have b9 : Hid (Below W1.heap.size W1 w9) := by rw [hw9]; exact (Below.refl _ _).alloc (Nat.le_refl _) _
  have q1 : Hid (w9.heap[W1.heap.size]? = some (.cells #[.pointer (some ⟨tb, 0, none⟩)] 31)) := by rw [hw9]; exact heap_alloc_new W1 _
  have B9 := keep (b1.out.trans (b9.out.mono b1.out.size))
  have C9 : Hid (Below w.heap.size w w9) := BU.out.trans (B9.out.mono hBx)
  have x9 : Hid (Boxed w9 u.heap.size 22 (.slice none 0 0)) := (b9.out.block _ x1.out.lt).trans x1.out
  have S9 : Hid (AskI w u.heap.size tb W1.heap.size pa pc ps Fl ([], 0) w9) := ⟨⟨_, [], x9.out, World.ownsRow_nil _ _ _ _, (fun y hy => by cases hy), rfl, C9.out⟩, Nat.le_refl _, (fun _ _ d hd => by cases hd), TB.out _ B9.out _ q1.out, (fun d hd => by cases hd), Nat.zero_le _, rfl, rfl, fun p hp => (TE.out p hp).below B9.out⟩
  clear hw9 HW1
  gi_wp2_with fail
  refine rangeFunc_state (σ := List DE × Nat) (F := Fence.wide) rfl (by decide) (gf := 78) (lb := #[.pointer (some ⟨W1.heap.size, 0, none⟩)]) rfl trivial (enters_of Tryz.func78 (by kernel_rfl) rfl)
    (AskI w u.heap.size tb W1.heap.size pa pc ps Fl) (fun s => #[ev (nthE s.1 s.2)]) (fun s => (s.1, s.2 + 1)) (fun s => s.2 < (evsD s.1).length) (fun s => s.1.length = ps.length ∧ s.2 = (evsD s.1).length) ([], 0) (fun _ => rfl)
    (fun s W o h => h.same (Tags.of_below ((Below.refl _ _).alloc (Nat.le_refl _) o)) ((Below.refl _ _).alloc (by obtain ⟨_, _, _, _, _, _, hb⟩ := h.all; exact hb.size) o))
    ?put S9.out
    (fun s a' W => ∃ g, a' = { tmps := #[.pointer (some ⟨tb, 0, none⟩), undef, .slice none 0 0, .pointer (some ⟨u.heap.size, 0, none⟩), .pointer (some ⟨g, 0, none⟩), .pointer (some ⟨tb, 0, none⟩), .func (.func 78) #[] #[.pointer (some ⟨W1.heap.size, 0, none⟩)], ev (nthE s.1 s.2), undef, undef, undef, undef, undef, undef], defers := [] } ∧ W.heap[g]? = some (.cells #[.slice (nthE s.1 s.2).kp (nthE s.1 s.2).e.key.length (nthE s.1 s.2).kc, .int .i64 (nthE s.1 s.2).e.seq, .bool (nthE s.1 s.2).e.gone, .slice (nthE s.1 s.2).vp (nthE s.1 s.2).e.val.length (nthE s.1 s.2).vc] 37))
    ?putA ?seq ?assign ?body ?done
  case put =>
    intro s W l o o' h hl9 ho hc
    have hne : ∀ k, k ≠ l → (W.putObj l o').heap[k]? = W.heap[k]? := fun k hk => World.putObj_heap_other hk
    refine h.same (fun g c t fr hg _ => hne g (fun e => ?_)) ⟨rfl, rfl, rfl, by simp [World.putObj], fun k hk => hne k (by have := C9.out.size; omega)⟩
    rw [e, ho] at hg
    cases hg
    cases hc
  case putA =>
    rintro s a' W l o o' ⟨g, h1, h2⟩ hl9 ho hc
    refine ⟨g, h1, (World.putObj_heap_other (fun e => ?_)).trans h2⟩
    rw [e, ho] at h2
    cases h2
    cases hc
  case seq =>
    intro l Bk hBk hY W h0 hb0
    exact each1_ask 7 (by decide) l _ tb _ _ pa pc ps Fl w hl (fun p hp => (HPS.out p hp).1) TN.out TF.out Bk hBk hY W h0 hb0
  case assign =>
    intro l s W K hI _ hK
    have ST := keep (fun a' W' h1 h2 h3 => hK a' W' h1 h2 h3)
    obtain ⟨z, hz⟩ : ∃ z, nthE s.1 s.2 = z := ⟨_, rfl⟩
    have HZ := keep hz
    rw [hz]
    have II := keep hI
    clear hK hz hI
    simp only [List.zip_toArray, List.zip_cons_cons, List.zip_nil_right, List.foldl_toArray, List.foldl_cons, List.foldl_nil, List.setIfInBounds_toArray, List.set_cons_zero, List.set_cons_succ]
    unfold ev
    gi_wp2
    have hWb : w.heap.size ≤ W.heap.size := by obtain ⟨_, _, _, _, _, _, hb⟩ := II.out.all; exact hb.size
    refine ST.out _ _ ((KeepsOthers.alloc _ _).from _) (II.out.same (Tags.of_below ((Below.refl _ _).alloc (Nat.le_refl _) _)) ((Below.refl _ _).alloc hWb _)) ⟨W.heap.size, ?_, ?_⟩
    · rw [HZ.out]; rfl
    · rw [HZ.out]; exact heap_alloc_new W _
  case body =>
    rintro l s a' W hI hmore ⟨g, rfl, hg⟩
    have HI := keep hI
    obtain ⟨v, out, hx, ho, hh, hm, hb⟩ := hI.all
    have HX := keep hx
    have HO := keep ho
    have HH := keep hh
    have HM := keep hm
    have HB := keep hb
    have ZH := keep (hI.held s.2)
    have SM := keep (hI.small HPS.out)
    have ZS := keep (nthE_small SM.out s.2)
    have hol : out.length ≤ 4096 := by
      have h1 := congrArg List.length hm
      rw [List.length_map, List.length_map, List.length_range] at h1
      have h2 := evsD_few s.1 (fun d hd => (SM.out d hd).1)
      have h3 := hI.few
      omega
    obtain ⟨z, hz⟩ : ∃ z, nthE s.1 s.2 = z := ⟨_, rfl⟩
    have HZ := keep hz
    rw [hz] at hg ZH ZS ⊢
    have CP : Hid (∀ w', Below W.heap.size W w' → _) := fun w' hb' => tcopied_any z w' (by have := ZS.out.1; omega) (by have := ZS.out.2; omega) (entKind_ok.below ZH.out hb')
    have bd : Hid (Below W.heap.size W W.drew) := (Below.refl _ _).drew
    have c8 : W.drew.cell? ⟨u.heap.size, 0, none⟩ = some v := below_cell bd.out hx.cell
    have e0 : W.drew.cell? ⟨g, 0, none⟩ = some (.slice z.kp z.e.key.length z.kc) := below_cell bd.out (cell_of_row _ _ _ _ _ _ hg)
    have e1 : W.drew.cell? ⟨g, 1, none⟩ = some (.int .i64 z.e.seq) := below_cell bd.out (cell_of_row _ _ _ _ _ _ hg)
    have e2 : W.drew.cell? ⟨g, 2, none⟩ = some (.bool z.e.gone) := below_cell bd.out (cell_of_row _ _ _ _ _ _ hg)
    have e3 : W.drew.cell? ⟨g, 3, none⟩ = some (.slice z.vp z.e.val.length z.vc) := below_cell bd.out (cell_of_row _ _ _ _ _ _ hg)
    have hwW : w.heap.size ≤ W.heap.size := hb.size
    unfold ev at CP ⊢
    clear hx ho hh hm hb hg hz hI
    gi_wp2_with fail
    refine wpIn_region_any (by kernel_rfl) ?_
    try (change wpAnyIn _ _ _ _ _ _ _ _ _ (World.drew _))
    refine wpAnyIn_ready (rs := [0, 1]) (by kernel_rfl) (by simp) ?_
    refine AllReadyIn.cons rfl (fun K hK => ?_) (AllReadyIn.cons rfl (fun K hK => ?_) AllReadyIn.nil)
    · go_simp
      first | (refine hK _ _ ?_; clear hK K) | skip
      refine wpAnyIn_ready (rs := [1]) (by kernel_rfl) (by simp) ?_
      refine AllReadyIn.cons rfl (fun K hK => ?_) AllReadyIn.nil
      go_simp
      first | (refine hK _ _ ?_; clear hK K) | skip
      refine wpAnyIn_ready (rs := [2]) (by kernel_rfl) (by simp) ?_
      refine AllReadyIn.cons rfl (fun K hK => ?_) AllReadyIn.nil
      go_simp
      refine ⟨trivial, ?_⟩
      refine (CallsIn.inRound l (callsIn_wide.2 (CP.out _ bd.out))).mono ?_
      rintro e w5 ⟨y, rfl, hye, hyo, hb5⟩
      have HYE := keep hye
      have HYO := keep hyo
      have B5 := keep (bd.out.trans (hb5.mono bd.out.size))
      have c8b : w5.cell? ⟨u.heap.size, 0, none⟩ = some v := below_cell hb5 c8
      clear hye hyo hb5
      obtain ⟨ykp, ykc, yvp, yvc, ⟨ykey, yseq, ygone, yval⟩⟩ := y
      try simp only
      gi_wp2_with fail
      first | (refine hK _ _ ?_; clear hK K) | skip
      refine wpAnyIn_ready (rs := [3]) (by kernel_rfl) (by simp) ?_
      refine AllReadyIn.cons rfl (fun K hK => ?_) AllReadyIn.nil
      have c8c : (w5.alloc (.cells #[.slice ykp ykey.length ykc, .int .i64 yseq, .bool ygone, .slice yvp yval.length yvc] 37)).cell? ⟨u.heap.size, 0, none⟩ = some v := below_cell ((Below.refl _ _).alloc (Nat.le_refl _) _) c8b
      go_simp
      first | (refine hK _ _ ?_; clear hK K) | skip
      refine wpAnyIn_ready (rs := [4]) (by kernel_rfl) (by simp) ?_
      refine AllReadyIn.cons rfl (fun K hK => ?_) AllReadyIn.nil
      have B6 := keep (B5.out.alloc B5.out.size (.cells #[.slice ykp ykey.length ykc, .int .i64 yseq, .bool ygone, .slice yvp yval.length yvc] 37))
      have R6 := keep (own_block HO.out (fun g' hg' => B6.out.block g' (own_size HO.out hg')))
      have rc6 := keep (rec_cells (k := entKind) w5 37 (⟨ykp, ykc, yvp, yvc, ⟨ykey, yseq, ygone, yval⟩⟩ : EV))
      have Y6 : Hid (OwnE w.heap.size (w5.alloc (.cells #[.slice ykp ykey.length ykc, .int .i64 yseq, .bool ygone, .slice yvp yval.length yvc] 37)) ⟨ykp, ykc, yvp, yvc, ⟨ykey, yseq, ygone, yval⟩⟩) := (HYO.out.base (show w.heap.size ≤ W.drew.heap.size from hwW)).tag5 (fun g' cur hc => Below.heap_alloc _ _ _ (Array.getElem?_eq_some_iff.1 hc).1)
      refine stepIn_append_at rfl _ _ 22 37 rfl w.heap.size i0 _ Tryz.underlying22 hi0 hz0 hz1 hz2 rfl v out.length out rfl R6.out _ 1 (⟨ykp, ykc, yvp, yvc, ⟨ykey, yseq, ygone, yval⟩⟩ : EV) rfl rc6.out (by unfold maxLen; omega) (by omega) (Nat.le_trans hwW B6.out.size) ?_
      intro v7 w7 ho7 hg7 hwh7
      obtain ⟨g7, k7, rfl⟩ := own_form ho7
      have N7 := keep (AskI.next HI.out hmore hBx HX.out HO.out HH.out HM.out HB.out B6.out Y6.out (show _ = (nthE s.1 s.2).e from by rw [HZ.out]; exact HYE.out) ho7 hg7 hwh7)
      have c9 := N7.out.1.cell
      have f9 := N7.out.1.frozen
      clear ho7 hg7 hwh7
      refine hK _ _ ?_
      clear hK K
      refine wpAnyIn_ready (rs := [5]) (by kernel_rfl) (by simp) ?_
      refine AllReadyIn.cons rfl (fun K hK => ?_) AllReadyIn.nil
      go_simp
      first | (refine hK _ _ ?_; clear hK K) | skip
      refine wpAnyIn_done (by kernel_rfl) ?_ _
      exact ⟨N7.out.2.1.from _, N7.out.2.2⟩
    · go_simp
      first | (refine hK _ _ ?_; clear hK K) | skip
      refine wpAnyIn_ready (rs := [0, 2]) (by kernel_rfl) (by simp) ?_
      refine AllReadyIn.cons rfl (fun K hK => ?_) (AllReadyIn.cons rfl (fun K hK => ?_) AllReadyIn.nil)
      · go_simp
        first | (refine hK _ _ ?_; clear hK K) | skip
        refine wpAnyIn_ready (rs := [2]) (by kernel_rfl) (by simp) ?_
        refine AllReadyIn.cons rfl (fun K hK => ?_) AllReadyIn.nil
        go_simp
        refine ⟨trivial, ?_⟩
        refine (CallsIn.inRound l (callsIn_wide.2 (CP.out _ bd.out))).mono ?_
        rintro e w5 ⟨y, rfl, hye, hyo, hb5⟩
        have HYE := keep hye
        have HYO := keep hyo
        have B5 := keep (bd.out.trans (hb5.mono bd.out.size))
        have c8b : w5.cell? ⟨u.heap.size, 0, none⟩ = some v := below_cell hb5 c8
        clear hye hyo hb5
        obtain ⟨ykp, ykc, yvp, yvc, ⟨ykey, yseq, ygone, yval⟩⟩ := y
        try simp only
        gi_wp2_with fail
        first | (refine hK _ _ ?_; clear hK K) | skip
        refine wpAnyIn_ready (rs := [3]) (by kernel_rfl) (by simp) ?_
        refine AllReadyIn.cons rfl (fun K hK => ?_) AllReadyIn.nil
        have c8c : (w5.alloc (.cells #[.slice ykp ykey.length ykc, .int .i64 yseq, .bool ygone, .slice yvp yval.length yvc] 37)).cell? ⟨u.heap.size, 0, none⟩ = some v := below_cell ((Below.refl _ _).alloc (Nat.le_refl _) _) c8b
        go_simp
        first | (refine hK _ _ ?_; clear hK K) | skip
        refine wpAnyIn_ready (rs := [4]) (by kernel_rfl) (by simp) ?_
        refine AllReadyIn.cons rfl (fun K hK => ?_) AllReadyIn.nil
        have B6 := keep (B5.out.alloc B5.out.size (.cells #[.slice ykp ykey.length ykc, .int .i64 yseq, .bool ygone, .slice yvp yval.length yvc] 37))
        have R6 := keep (own_block HO.out (fun g' hg' => B6.out.block g' (own_size HO.out hg')))
        have rc6 := keep (rec_cells (k := entKind) w5 37 (⟨ykp, ykc, yvp, yvc, ⟨ykey, yseq, ygone, yval⟩⟩ : EV))
        have Y6 : Hid (OwnE w.heap.size (w5.alloc (.cells #[.slice ykp ykey.length ykc, .int .i64 yseq, .bool ygone, .slice yvp yval.length yvc] 37)) ⟨ykp, ykc, yvp, yvc, ⟨ykey, yseq, ygone, yval⟩⟩) := (HYO.out.base (show w.heap.size ≤ W.drew.heap.size from hwW)).tag5 (fun g' cur hc => Below.heap_alloc _ _ _ (Array.getElem?_eq_some_iff.1 hc).1)
        refine stepIn_append_at rfl _ _ 22 37 rfl w.heap.size i0 _ Tryz.underlying22 hi0 hz0 hz1 hz2 rfl v out.length out rfl R6.out _ 1 (⟨ykp, ykc, yvp, yvc, ⟨ykey, yseq, ygone, yval⟩⟩ : EV) rfl rc6.out (by unfold maxLen; omega) (by omega) (Nat.le_trans hwW B6.out.size) ?_
        intro v7 w7 ho7 hg7 hwh7
        obtain ⟨g7, k7, rfl⟩ := own_form ho7
        have N7 := keep (AskI.next HI.out hmore hBx HX.out HO.out HH.out HM.out HB.out B6.out Y6.out (show _ = (nthE s.1 s.2).e from by rw [HZ.out]; exact HYE.out) ho7 hg7 hwh7)
        have c9 := N7.out.1.cell
        have f9 := N7.out.1.frozen
        clear ho7 hg7 hwh7
        refine hK _ _ ?_
        clear hK K
        refine wpAnyIn_ready (rs := [5]) (by kernel_rfl) (by simp) ?_
        refine AllReadyIn.cons rfl (fun K hK => ?_) AllReadyIn.nil
        go_simp
        first | (refine hK _ _ ?_; clear hK K) | skip
        refine wpAnyIn_done (by kernel_rfl) ?_ _
        exact ⟨N7.out.2.1.from _, N7.out.2.2⟩
      · go_simp
        refine ⟨trivial, ?_⟩
        refine (CallsIn.inRound l (callsIn_wide.2 (CP.out _ bd.out))).mono ?_
        rintro e w5 ⟨y, rfl, hye, hyo, hb5⟩
        have HYE := keep hye
        have HYO := keep hyo
        have B5 := keep (bd.out.trans (hb5.mono bd.out.size))
        have c8b : w5.cell? ⟨u.heap.size, 0, none⟩ = some v := below_cell hb5 c8
        clear hye hyo hb5
        obtain ⟨ykp, ykc, yvp, yvc, ⟨ykey, yseq, ygone, yval⟩⟩ := y
        try simp only
        gi_wp2_with fail
        first | (refine hK _ _ ?_; clear hK K) | skip
        refine wpAnyIn_ready (rs := [0, 3]) (by kernel_rfl) (by simp) ?_
        refine AllReadyIn.cons rfl (fun K hK => ?_) (AllReadyIn.cons rfl (fun K hK => ?_) AllReadyIn.nil)
        · go_simp
          first | (refine hK _ _ ?_; clear hK K) | skip
          refine wpAnyIn_ready (rs := [3]) (by kernel_rfl) (by simp) ?_
          refine AllReadyIn.cons rfl (fun K hK => ?_) AllReadyIn.nil
          have c8c : (w5.alloc (.cells #[.slice ykp ykey.length ykc, .int .i64 yseq, .bool ygone, .slice yvp yval.length yvc] 37)).cell? ⟨u.heap.size, 0, none⟩ = some v := below_cell ((Below.refl _ _).alloc (Nat.le_refl _) _) c8b
          go_simp
          first | (refine hK _ _ ?_; clear hK K) | skip
          refine wpAnyIn_ready (rs := [4]) (by kernel_rfl) (by simp) ?_
          refine AllReadyIn.cons rfl (fun K hK => ?_) AllReadyIn.nil
          have B6 := keep (B5.out.alloc B5.out.size (.cells #[.slice ykp ykey.length ykc, .int .i64 yseq, .bool ygone, .slice yvp yval.length yvc] 37))
          have R6 := keep (own_block HO.out (fun g' hg' => B6.out.block g' (own_size HO.out hg')))
          have rc6 := keep (rec_cells (k := entKind) w5 37 (⟨ykp, ykc, yvp, yvc, ⟨ykey, yseq, ygone, yval⟩⟩ : EV))
          have Y6 : Hid (OwnE w.heap.size (w5.alloc (.cells #[.slice ykp ykey.length ykc, .int .i64 yseq, .bool ygone, .slice yvp yval.length yvc] 37)) ⟨ykp, ykc, yvp, yvc, ⟨ykey, yseq, ygone, yval⟩⟩) := (HYO.out.base (show w.heap.size ≤ W.drew.heap.size from hwW)).tag5 (fun g' cur hc => Below.heap_alloc _ _ _ (Array.getElem?_eq_some_iff.1 hc).1)
          refine stepIn_append_at rfl _ _ 22 37 rfl w.heap.size i0 _ Tryz.underlying22 hi0 hz0 hz1 hz2 rfl v out.length out rfl R6.out _ 1 (⟨ykp, ykc, yvp, yvc, ⟨ykey, yseq, ygone, yval⟩⟩ : EV) rfl rc6.out (by unfold maxLen; omega) (by omega) (Nat.le_trans hwW B6.out.size) ?_
          intro v7 w7 ho7 hg7 hwh7
          obtain ⟨g7, k7, rfl⟩ := own_form ho7
          have N7 := keep (AskI.next HI.out hmore hBx HX.out HO.out HH.out HM.out HB.out B6.out Y6.out (show _ = (nthE s.1 s.2).e from by rw [HZ.out]; exact HYE.out) ho7 hg7 hwh7)
          have c9 := N7.out.1.cell
          have f9 := N7.out.1.frozen
          clear ho7 hg7 hwh7
          refine hK _ _ ?_
          clear hK K
          refine wpAnyIn_ready (rs := [5]) (by kernel_rfl) (by simp) ?_
          refine AllReadyIn.cons rfl (fun K hK => ?_) AllReadyIn.nil
          go_simp
          first | (refine hK _ _ ?_; clear hK K) | skip
          refine wpAnyIn_done (by kernel_rfl) ?_ _
          exact ⟨N7.out.2.1.from _, N7.out.2.2⟩
        · have c8c : (w5.alloc (.cells #[.slice ykp ykey.length ykc, .int .i64 yseq, .bool ygone, .slice yvp yval.length yvc] 37)).cell? ⟨u.heap.size, 0, none⟩ = some v := below_cell ((Below.refl _ _).alloc (Nat.le_refl _) _) c8b
          go_simp
          first | (refine hK _ _ ?_; clear hK K) | skip
          refine wpAnyIn_ready (rs := [0]) (by kernel_rfl) (by simp) ?_
          refine AllReadyIn.cons rfl (fun K hK => ?_) AllReadyIn.nil
          go_simp
          first | (refine hK _ _ ?_; clear hK K) | skip
          refine wpAnyIn_ready (rs := [4]) (by kernel_rfl) (by simp) ?_
          refine AllReadyIn.cons rfl (fun K hK => ?_) AllReadyIn.nil
          have B6 := keep (B5.out.alloc B5.out.size (.cells #[.slice ykp ykey.length ykc, .int .i64 yseq, .bool ygone, .slice yvp yval.length yvc] 37))
          have R6 := keep (own_block HO.out (fun g' hg' => B6.out.block g' (own_size HO.out hg')))
          have rc6 := keep (rec_cells (k := entKind) w5 37 (⟨ykp, ykc, yvp, yvc, ⟨ykey, yseq, ygone, yval⟩⟩ : EV))
          have Y6 : Hid (OwnE w.heap.size (w5.alloc (.cells #[.slice ykp ykey.length ykc, .int .i64 yseq, .bool ygone, .slice yvp yval.length yvc] 37)) ⟨ykp, ykc, yvp, yvc, ⟨ykey, yseq, ygone, yval⟩⟩) := (HYO.out.base (show w.heap.size ≤ W.drew.heap.size from hwW)).tag5 (fun g' cur hc => Below.heap_alloc _ _ _ (Array.getElem?_eq_some_iff.1 hc).1)
          refine stepIn_append_at rfl _ _ 22 37 rfl w.heap.size i0 _ Tryz.underlying22 hi0 hz0 hz1 hz2 rfl v out.length out rfl R6.out _ 1 (⟨ykp, ykc, yvp, yvc, ⟨ykey, yseq, ygone, yval⟩⟩ : EV) rfl rc6.out (by unfold maxLen; omega) (by omega) (Nat.le_trans hwW B6.out.size) ?_
          intro v7 w7 ho7 hg7 hwh7
          obtain ⟨g7, k7, rfl⟩ := own_form ho7
          have N7 := keep (AskI.next HI.out hmore hBx HX.out HO.out HH.out HM.out HB.out B6.out Y6.out (show _ = (nthE s.1 s.2).e from by rw [HZ.out]; exact HYE.out) ho7 hg7 hwh7)
          have c9 := N7.out.1.cell
          have f9 := N7.out.1.frozen
          clear ho7 hg7 hwh7
          refine hK _ _ ?_
          clear hK K
          refine wpAnyIn_ready (rs := [5]) (by kernel_rfl) (by simp) ?_
          refine AllReadyIn.cons rfl (fun K hK => ?_) AllReadyIn.nil
          go_simp
          first | (refine hK _ _ ?_; clear hK K) | skip
          refine wpAnyIn_done (by kernel_rfl) ?_ _
          exact ⟨N7.out.2.1.from _, N7.out.2.2⟩
  case done =>
    rintro D s W hD ⟨hf1, hf2⟩ hI hK
    have HI := keep hI
    obtain ⟨v, out, hx, ho, hh, hm, hb⟩ := hI.all
    have hc := hx.cell
    have HO := keep ho
    have HH := keep hh
    have HM := keep hm
    have HB := keep hb
    have HK := keep hK
    clear ho hh hm hb hK hx hI
    gi_wp2
    refine leaves_marks (B := w.heap.size) [D] _ ⟨by simp, fun x hx => ?_, fun x hx => ?_⟩ (fun W' hs => ⟨v, ?_, _, rfl, s.1, out, ?_, ?_, ?_, ?_, HB.out.trans (hs.below HB.out.size)⟩)
    · rw [List.mem_singleton.1 hx]; exact Nat.le_trans C9.out.size hD
    · rw [List.mem_singleton.1 hx]; exact HK.out
    · simp [results, Tryz.f17, go_sem]
    · exact ⟨hs.own HO.out, fun y hy => ⟨hs.own (HH.out y hy).1, hs.own (HH.out y hy).2⟩⟩
    · rw [HM.out, hf2, nthE_all]
    · rw [HI.out.ents, hf1, List.take_length]
    · exact (HI.out.same (fun g c t fr hg _ => (hs.block g _ hg (.inr rfl)).trans hg.symm) (hs.below HB.out.size)).fin hf1
end Go.Proofs.YtjblicgbdecbcaaGreat
namespace Go.Proofs.YtjblicgbdecbcaaGreat
open Go.RowKit Go.Shelf
open Sk (Ent)

/-- Parse's answer. -/
def TParsed (w : World) (b : List UInt8) (e : Ending) (w' : World) : Prop :=
  (∃ (L : List Ent) (tb : Nat) (ds : List DE), Tq.tparse b = some L ∧ e = .returned (.tuple #[.pointer (some ⟨tb, 0, none⟩), .int .i64 0]) ∧ TDone w' tb ds (Tq.filtOf b) ∧ entsD ds = L ∧ ds.length ≤ 64 ∧ (∀ d ∈ ds, d.ys.length ≤ 64 ∧ ∀ y ∈ d.ys, y.e.key.length ≤ 64 ∧ y.e.val.length ≤ 1024) ∧ Below w.heap.size w w' ∧ ds.map (fun d => d.ys.map (·.e)) = (Tq.pieces b).map Tq.pl) ∨
  (Tq.tparse b = none ∧ e = .returned (.tuple #[.pointer none, .int .i64 2]) ∧ Below w.heap.size w w')
theorem ents_flat (ds : List DE) (ps : List PE) (b : List UInt8) (h : ds.map (fun d => d.ys.map (·.e)) = ps.map (fun p => Tq.pl p.raw)) (hp : ps.map (·.raw) = Tq.pieces b) : entsD ds = Tq.rd b := by
  unfold entsD Tq.rd
  rw [List.flatMap_def, h, ← hp, List.flatMap_def, List.map_map]
  rfl
theorem pl_small (p : List UInt8) : (Tq.pl p).length ≤ 64 ∧ ∀ e ∈ Tq.pl p, e.key.length ≤ 64 ∧ e.val.length ≤ 1024 := by
  unfold Tq.pl
  cases h : Bq.parse p with
  | none => exact ⟨Nat.zero_le _, fun e he => by cases he⟩
  | some l =>
    have h1 := (Bq.parse_some h).1
    refine ⟨Nat.le_trans (Bq.okB_len h1).2 (by decide), fun e he => ?_⟩
    have := Bq.may_bounds (Bq.okB_may h1 e he)
    exact ⟨this.2.1, this.2.2.2.2⟩
theorem pieces_few (b : List UInt8) : (Tq.pieces b).length ≤ 64 := by
  unfold Tq.pieces
  rw [Tq.readP_len]
  unfold Tq.pn
  omega
theorem small_of {ds : List DE} {ps : List PE} (h : ds.map (fun d => d.ys.map (·.e)) = ps.map (fun p => Tq.pl p.raw)) : ∀ d ∈ ds, d.ys.length ≤ 64 ∧ ∀ y ∈ d.ys, y.e.key.length ≤ 64 ∧ y.e.val.length ≤ 1024 := fun d hd => by
  have hm : d.ys.map (·.e) ∈ ps.map (fun p => Tq.pl p.raw) := by rw [← h]; exact List.mem_map_of_mem (f := fun d : DE => d.ys.map (·.e)) hd
  obtain ⟨p, _, e⟩ := List.mem_map.1 hm
  have h1 := pl_small p.raw
  rw [e] at h1
  exact ⟨by simpa using h1.1, fun y hy => h1.2 y.e (List.mem_map_of_mem hy)⟩
set_option maxHeartbeats 2000000 in
set_option maxRecDepth 100000 in
theorem tparse_any (ao : Option Addr) (m c : Nat) (b : List UInt8) (w : World) (hm : m ≤ 140737488355328) (hs : Src w ao m c b) :
    Calls Tryz.prog 11 #[.slice ao m c] w (TParsed w b) := by
  have RA := keep (read_any ao m c b w hm hs)
  have HS := keep hs
  clear hs
  go_enter Tryz.func11, Tryz.ntmps11
  go_wp2_with fail
  refine RA.out.mono ?_
  rintro e w1 ⟨tb, rfl, ps, hT, hp, hb1⟩
  have HP := keep hp
  have hpl : ps.length ≤ 64 := by
    have h1 := congrArg List.length hp
    rw [List.length_map] at h1
    have := pieces_few b
    omega
  have AF := keep (all_first tb ps _ w w1 hT hb1 hpl (fun p _ => pl_small p.raw))
  clear hT hp hb1 RA
  go_wp2_with fail
  refine AF.out.mono ?_
  rintro e w2 ⟨v, rfl, ds, ys, hE, hye, hde, hD, hb2⟩
  have SM := keep (small_of hde)
  have FL := keep (ents_flat ds ps b hde HP.out)
  have HDE : Hid (ds.map (fun d => d.ys.map (·.e)) = (Tq.pieces b).map Tq.pl) := by show _ = _; rw [hde, ← HP.out, List.map_map]; rfl
  have TD := keep hD
  have B2 := keep hb2
  have hdl : ds.length ≤ 64 := by
    have h1 := congrArg List.length hde
    rw [List.length_map, List.length_map] at h1
    omega
  have HDL := keep hdl
  obtain ⟨a2, c2, rfl, hs2, _⟩ := RSrc.own entKind_ok hE.row (fun y hy => (hE.each y hy).held)
  have BB := keep (tbuild_any a2 ys.length c2 ys w2 hs2 (fun y hy => by
    have hmm : y.e ∈ entsD ds := by rw [← hye]; exact List.mem_map_of_mem hy
    obtain ⟨d, hd, hy2⟩ := List.mem_flatMap.1 hmm
    obtain ⟨y2, hy3, e2⟩ := List.mem_map.1 hy2
    have := (SM.out d hd).2 y2 hy3
    rw [e2] at this
    omega))
  rw [hye, FL.out] at BB
  clear hE hye hde hD hb2 hs2 AF hdl hpl
  obtain ⟨n, hn⟩ : ∃ n, ys.length = n := ⟨_, rfl⟩
  rw [hn] at BB ⊢
  clear hn
  go_wp2_with fail
  refine BB.out.mono ?_
  rintro e w3 (⟨hok, a3, c3, rfl, ho3, hb3⟩ | ⟨hok, rfl, hb3⟩)
  · obtain ⟨_, _, e3, hs3, _⟩ := Src.of_own ho3
    cases e3
    have B3 := keep (B2.out.trans (hb3.mono B2.out.size))
    have T3 := keep (TD.out.below hb3)
    have EQ := keep (equal_any a3 _ c3 _ ao m c b w3 hs3 (HS.out.below B3.out))
    have OK := keep hok
    clear hs3 ho3 hb3 hok BB
    obtain ⟨nb, hnb⟩ : ∃ nb, (Tq.tab (Tq.rd b)).length = nb := ⟨_, rfl⟩
    rw [hnb] at EQ ⊢
    clear hnb
    by_cases hq : Tq.tab (Tq.rd b) = b
    · rw [decide_eq_true hq] at EQ
      have PS : Hid (Tq.tparse b = some (Tq.rd b)) := if_pos ⟨OK.out, hq⟩
      clear hq
      go_wp2_with fail
      refine EQ.out.mono ?_
      rintro e w4 ⟨rfl, rfl⟩
      go_wp2
      go_ret2
      exact .inl ⟨_, tb, ds, PS.out, rfl, T3.out, FL.out, HDL.out, SM.out, B3.out, HDE.out⟩
    · rw [decide_eq_false hq] at EQ
      have PS : Hid (Tq.tparse b = none) := Tq.tparse_no (fun h => hq h.2)
      clear hq
      go_wp2_with fail
      refine EQ.out.mono ?_
      rintro e w4 ⟨rfl, rfl⟩
      go_wp2
      go_ret2
      exact .inr ⟨PS.out, rfl, B3.out⟩
  · have B3 := keep (B2.out.trans (hb3.mono B2.out.size))
    have PS : Hid (Tq.tparse b = none) := Tq.tparse_no (fun h => by rw [hok] at h; cases h.1)
    clear hb3 hok BB
    go_wp2
    go_ret2
    exact .inr ⟨PS.out, rfl, B3.out⟩
end Go.Proofs.YtjblicgbdecbcaaGreat
namespace Go.Proofs.YtjblicgbdecbcaaGreat.Tq
open Go.Proofs.YtjblicgbdecbcaaGreat
open Go.Proofs.YtjblicgbdecbcaaGreat.Sk (Ent)

theorem pieces_pl {b : List UInt8} {l : List Ent} (h : tparse b = some l) : (pieces b).map pl = (List.range (cnt l.length)).map (grp l) := by
  obtain ⟨h1, h2⟩ := tparse_some h
  have h3 := (pieces_tab h1 []).1
  rw [List.append_nil, h2] at h3
  rw [h3]
  unfold blks
  rw [List.map_map]
  refine List.map_congr_left (fun k hk => ?_)
  show pl (Bq.blk (grp l k)) = _
  unfold pl
  rw [Bq.parse_blk (grp_ok h1 (List.mem_range.1 hk))]
  rfl
theorem filtOf_some {b : List UInt8} {l : List Ent} (h : tparse b = some l) : filtOf b = filt l := by
  obtain ⟨h1, h2⟩ := tparse_some h
  have h3 := (pieces_tab h1 []).2
  rwa [List.append_nil, h2] at h3
end Go.Proofs.YtjblicgbdecbcaaGreat.Tq
namespace Go.Proofs.YtjblicgbdecbcaaGreat
open Go.RowKit
open Sk (Ent)

/-- A table as Parse answers it. -/
structure TabD (w : World) (tb : Nat) (ds : List DE) (L : List Ent) : Prop where
  done : TDone w tb ds (Tq.filt L)
  ok : Tq.tok L = true
  ents : entsD ds = L
  few : ds.length ≤ 64
  small : ∀ d ∈ ds, d.ys.length ≤ 64 ∧ ∀ y ∈ d.ys, y.e.key.length ≤ 64 ∧ y.e.val.length ≤ 1024
  grps : ds.map (fun d => d.ys.map (·.e)) = (List.range (Tq.cnt L.length)).map (Tq.grp L)
theorem TabD.below {w w' : World} {tb : Nat} {ds : List DE} {L : List Ent} (h : TabD w tb ds L) (hb : Below w.heap.size w w') : TabD w' tb ds L := ⟨h.done.below hb, h.ok, h.ents, h.few, h.small, h.grps⟩
theorem TParsed.cases {w w' : World} {b : List UInt8} {e : Ending} (h : TParsed w b e w') :
    (∃ (L : List Ent) (tb : Nat) (ds : List DE), Tq.tparse b = some L ∧ e = .returned (.tuple #[.pointer (some ⟨tb, 0, none⟩), .int .i64 0]) ∧ TabD w' tb ds L ∧ Below w.heap.size w w') ∨
    (Tq.tparse b = none ∧ e = .returned (.tuple #[.pointer none, .int .i64 2]) ∧ Below w.heap.size w w') := by
  rcases h with ⟨L, tb, ds, h1, h2, h3, h4, h5, h6, h7, h8⟩ | h
  · refine .inl ⟨L, tb, ds, h1, h2, ⟨?_, (Tq.tparse_some h1).1, h4, h5, h6, ?_⟩, h7⟩
    · rw [← Tq.filtOf_some h1]; exact h3
    · rw [h8, Tq.pieces_pl h1]
  · exact .inr h
theorem TabD.got {w : World} {tb : Nat} {ds : List DE} {L : List Ent} (h : TabD w tb ds L) (key : List UInt8) (s : Int) : gotT ds (Tq.filt L) key s = verE L key s := by
  unfold gotT
  rw [h.ents]
  cases hh : Bl.has (Tq.filt L) key with
  | true => rfl
  | false =>
    rw [if_neg (by decide)]
    refine (List.find?_eq_none.2 (fun e he hv => ?_)).symm
    have hk : e.key = key := by
      unfold vers at hv
      simp at hv
      exact hv.1
    have h1 := Tq.has_key he
    rw [hk] at h1
    unfold Tq.filt at hh
    rw [hh] at h1
    cases h1
theorem TabD.len {w : World} {tb : Nat} {ds : List DE} {L : List Ent} (h : TabD w tb ds L) : ds.length = Tq.cnt L.length := by
  have := congrArg List.length h.grps
  simpa using this
theorem TabD.evs {w : World} {tb : Nat} {ds : List DE} {L : List Ent} (h : TabD w tb ds L) : (evsD ds).map (·.e) = L := by
  rw [← h.ents]
  unfold evsD entsD
  rw [List.map_flatMap]
theorem TabD.evs_len {w : World} {tb : Nat} {ds : List DE} {L : List Ent} (h : TabD w tb ds L) : (evsD ds).length = L.length := by
  have := congrArg List.length h.evs
  rwa [List.length_map] at this
theorem TabD.at {w : World} {tb : Nat} {ds : List DE} {L : List Ent} (h : TabD w tb ds L) {m : Nat} {d : DE} (hd : ds[m]? = some d) : d.ys.map (·.e) = Tq.grp L m := by
  have h1 : (ds.map (fun d => d.ys.map (·.e)))[m]? = some (d.ys.map (·.e)) := by rw [List.getElem?_map, hd]; rfl
  have hm : m < Tq.cnt L.length := by rw [← h.len]; exact (List.getElem?_eq_some_iff.1 hd).1
  rw [h.grps, List.getElem?_map, List.getElem?_range hm] at h1
  simpa using h1.symm
theorem TabD.first {w : World} {tb : Nat} {ds : List DE} {L : List Ent} (h : TabD w tb ds L) : ∃ d ds' y ys, ds = d :: ds' ∧ d.ys = y :: ys ∧ L[0]? = some y.e := by
  have hc := Tq.cnt_le h.ok
  have hl := Tq.tok_len h.ok
  have hlen := h.len
  match ds, hlen with
  | [], e => simp only [List.length_nil] at e; omega
  | d :: ds', _ =>
    have h1 := h.at (m := 0) rfl
    have h2 : (d.ys.map (·.e)).length = min 8 L.length := by rw [h1, Tq.grp_len]; simp
    have h3 : (d.ys.map (·.e))[0]? = L[0]? := by rw [h1]; unfold Tq.grp; rw [List.getElem?_take_of_lt (by omega), List.getElem?_drop]
    match hy : d.ys with
    | [] => rw [hy] at h2; simp at h2; omega
    | y :: ys =>
      rw [hy] at h3
      exact ⟨d, ds', y, ys, rfl, hy, by rw [← h3]; rfl⟩
theorem TabD.last {w : World} {tb : Nat} {ds : List DE} {L : List Ent} (h : TabD w tb ds L) : ∃ m q d y, ds.length = m + 1 ∧ ds[m]? = some d ∧ d.ys.length = q + 1 ∧ d.ys[q]? = some y ∧ L[L.length - 1]? = some y.e := by
  have hc := Tq.cnt_le h.ok
  have hl := Tq.tok_len h.ok
  have hlen := h.len
  obtain ⟨m, hm⟩ : ∃ m, ds.length = m + 1 := ⟨ds.length - 1, by omega⟩
  obtain ⟨d, hd⟩ : ∃ d, ds[m]? = some d := ⟨ds[m]'(by omega), List.getElem?_eq_getElem _⟩
  have h1 := h.at hd
  have hcm : Tq.cnt L.length = m + 1 := by omega
  unfold Tq.cnt at hcm
  have h2 : d.ys.length = L.length - 8 * m := by
    have := congrArg List.length h1
    rw [List.length_map, Tq.grp_len] at this
    omega
  obtain ⟨q, hq⟩ : ∃ q, d.ys.length = q + 1 := ⟨d.ys.length - 1, by omega⟩
  obtain ⟨y, hy⟩ : ∃ y, d.ys[q]? = some y := ⟨d.ys[q]'(by omega), List.getElem?_eq_getElem _⟩
  refine ⟨m, q, d, y, hm, hd, hq, hy, ?_⟩
  have h3 : (d.ys.map (·.e))[q]? = some y.e := by rw [List.getElem?_map, hy]; rfl
  rw [h1] at h3
  unfold Tq.grp at h3
  rw [List.getElem?_take_of_lt (by omega), List.getElem?_drop] at h3
  rw [← h3]
  congr 1
  omega
end Go.Proofs.YtjblicgbdecbcaaGreat
