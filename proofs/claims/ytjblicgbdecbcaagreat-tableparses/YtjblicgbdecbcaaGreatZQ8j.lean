/- sync.Once at a piece: the parts of its slow road. -/
/- The walks of a piece's list: the first time, and again. -/
import Derived.Test.YtjblicgbdecbcaaGreatZQ6j
import Derived.Test.YtjblicgbdecbcaaGreatZJdj
import Derived.Defers
import Derived.Laws.Pointers
import Derived.Laws.LoneSync
import Derived.RegionTactic
import Derived.RegionCalls
import Derived.ChangeAlike
namespace Go.Proofs.YtjblicgbdecbcaaGreat
open Go.RowKit
open Sk (Ent)

theorem race_disable (w : World) : (callFunc 103 #[]).run Tryz.prog w = .ok (.value (.tuple #[])) w := run_call_mark0 Tryz.func103 (by kernel_rfl) (by kernel_rfl) (by kernel_rfl) .disable (by kernel_rfl) w
theorem race_enable (w : World) : (callFunc 105 #[]).run Tryz.prog w = .ok (.value (.tuple #[])) w := run_call_mark0 Tryz.func105 (by kernel_rfl) (by kernel_rfl) (by kernel_rfl) .enable (by kernel_rfl) w
theorem race_acquire (a : Addr) (w : World) : (callFunc 106 #[.pointer (some a)]).run Tryz.prog w = .ok (.value (.tuple #[])) w := run_call_marked Tryz.func106 (by kernel_rfl) (by kernel_rfl) (by kernel_rfl) .acquire (by kernel_rfl) a w
theorem race_release (a : Addr) (w : World) : (callFunc 108 #[.pointer (some a)]).run Tryz.prog w = .ok (.value (.tuple #[])) w := run_call_marked Tryz.func108 (by kernel_rfl) (by kernel_rfl) (by kernel_rfl) .releaseMerge (by kernel_rfl) a w
set_option maxHeartbeats 1600000 in
set_option maxRecDepth 100000 in
/-- The Once's word is stored, as a deferred call. -/
theorem once_store (a : Addr) (x : Value) (u : FrameMode) (w : World) (hc : w.cell? a = some x) (hz : w.frozen? a = false) :
    CallsD Tryz.prog 97 #[.pointer (some a), .bool true] u w fun e u' w' => u' = u ∧ (e = .returned (.tuple #[]) ∧ w' = w.drew.setCell a (.int .u32 1)) := by
  have hc' : w.drew.cell? a = some x := by go_simp
  have hz' : w.drew.frozen? a = false := by go_simp
  have hst := run_call_store (P := Tryz.prog) Tryz.func101 (by kernel_rfl) (by kernel_rfl) (by kernel_rfl) (by kernel_rfl) (k := .u32) (y := 1) hc' hz'
  go_enter_d Tryz.func97, Tryz.ntmps97
  go_wp2
  go_region_calls
  all_goals (go_end0; exact ⟨rfl, rfl⟩)
set_option maxHeartbeats 1600000 in
set_option maxRecDepth 100000 in
/-- The lock is let go, as a deferred call. -/
theorem once_unlock (a : Addr) (u : FrameMode) (w : World) (hc : w.cell? a = some (.int .i32 1)) (hz : w.frozen? a = false) :
    CallsD Tryz.prog 96 #[.pointer (some a)] u w fun e u' w' => u' = u ∧ (e = .returned (.tuple #[]) ∧ w' = w.setCell a (.int .i32 0)) := by
  have hd := race_disable
  have he := race_enable
  have hr := race_release
  have hadd := run_call_add (P := Tryz.prog) Tryz.func109 (by kernel_rfl) (by kernel_rfl) (by kernel_rfl) .i32 (by kernel_rfl) (y := -1) (s := 0) hc hz (by simp [go_sem]; rfl)
  have hcv := run_convert_to_unsafe (P := Tryz.prog) (src := 126) (dst := 130) Tryz.underlying126 Tryz.underlying130 (by kernel_rfl) hc
  go_enter_d Tryz.func96, Tryz.ntmps96
  go_wp2
  go_end0
  go_wp2
  go_end0
  exact ⟨rfl, rfl⟩
set_option maxHeartbeats 1600000 in
set_option maxRecDepth 100000 in
/-- The lock is taken, where it is free. -/
theorem once_lock (a : Addr) (w : World) (hc : w.cell? a = some (.int .i32 0)) (hz : w.frozen? a = false) :
    Calls Tryz.prog 95 #[.pointer (some a)] w fun e w' => e = .returned (.tuple #[]) ∧ w' = w.setCell a (.int .i32 1) := by
  have hd := race_disable
  have he := race_enable
  have ha := race_acquire
  have hcas := run_call_cas_hit (P := Tryz.prog) Tryz.func104 (by kernel_rfl) (by kernel_rfl) (by kernel_rfl) .i32 (by kernel_rfl) (y := 1) hc hz
  have hc' : (w.setCell a (.int .i32 1)).cell? a = some (.int .i32 1) := World.cell?_setCell_same w a _ hc
  have hcv := run_convert_to_unsafe (P := Tryz.prog) (src := 126) (dst := 130) Tryz.underlying126 Tryz.underlying130 (by kernel_rfl) hc'
  go_enter Tryz.func95, Tryz.ntmps95
  go_wp2
  first | go_end0 | (simp only [Exit.inBlock, Exit.then]; refine bodyPost_ret (results_none rfl _ _ _) rfl ?_) | refine bodyPost_ret (results_none rfl _ _ _) rfl ?_
  go_wp2
  go_end0
  exact ⟨rfl, rfl⟩
end Go.Proofs.YtjblicgbdecbcaaGreat
namespace Go.Proofs.YtjblicgbdecbcaaGreat
open Go.RowKit
open Sk (Ent)

/-- A row of entries lies in no block that holds no bool. -/
theorem rsrc_far {w w' : World} {r : Nat} {cs : Array Value} {t : TypeId} {fr : Nat × Nat} (hr : w.heap[r]? = some (.cells cs t fr)) (hnb : ∀ (i : Nat) (y : Bool), cs[i]? ≠ some (.bool y)) (hno : ∀ (i : Nat) (x : Int), cs[i]? ≠ some (.int .u8 x)) (hk : Kept (· = r) w w') {ao : Option Addr} {n c : Nat} {es : List EV} (h : RSrc entKind w ao n c es) : RSrc entKind w' ao n c es := by
  refine ⟨h.len, h.cap, h.nil, fun ad had j u hu => ?_, fun e he => ⟨src_kept' hr hno hk (h.held e he).1, src_kept' hr hno hk (h.held e he).2⟩⟩
  have hn : 0 < n := by
    obtain ⟨i, q, e, _, _, he, _⟩ := rv_get entKind_ok hu
    have := (List.getElem?_eq_some_iff.1 he).1
    have := h.len
    omega
  obtain ⟨b, off, e0, hlt, hc⟩ := h.form entKind_ok hn
  have hb : b ≠ r := fun e => by
    obtain ⟨x, hx⟩ : ∃ x, es[0]? = some x := ⟨es[0]'(by have := h.len; omega), List.getElem?_eq_getElem _⟩
    have h2 := hc 0 x hx 2 (.bool x.e.gone) rfl
    rw [e] at h2
    rw [cell_of_row _ _ _ _ _ _ hr] at h2
    exact hnb _ _ h2
  have h1 := h.cells ad had j u hu
  rw [e0] at had
  cases had
  rw [Addr.add_mid] at h1 ⊢
  rw [hk.cell (p := ⟨b, off + j, none⟩) hlt hb]
  exact h1
theorem no_bool5 {a b : Option Addr} {m c n d : Nat} {x y z : Int} : ∀ (i : Nat) (v : Bool), (#[Value.int .u32 x, .int .i32 y, .int .u32 z, .slice a m c, .slice b n d] : Array Value)[i]? ≠ some (.bool v)
  | 0, v => by simp
  | 1, v => by simp
  | 2, v => by simp
  | 3, v => by simp
  | 4, v => by simp
  | n + 5, v => by simp
theorem no_byte5 {a b : Option Addr} {m c n d : Nat} {x y z : Int} : ∀ (i : Nat) (v : Int), (#[Value.int .u32 x, .int .i32 y, .int .u32 z, .slice a m c, .slice b n d] : Array Value)[i]? ≠ some (.int .u8 v)
  | 0, v => by simp
  | 1, v => by simp
  | 2, v => by simp
  | 3, v => by simp
  | 4, v => by simp
  | n + 5, v => by simp
theorem set_kept (w : World) (blk i : Nat) (v : Value) : Kept (· = blk) w (w.setCell ⟨blk, i, none⟩ v) := Kept.setCell (U := (· = blk)) (Kept.refl _ _) (p := ⟨blk, i, none⟩) (.inl rfl) v
theorem parse_list (ao : Option Addr) (m c : Nat) (b : List UInt8) (w : World) (hs : Src w ao m c b) :
    Calls Tryz.prog 77 #[.slice ao m c] w fun e w' => ∃ ea ec ys E, e = .returned (.tuple #[.slice ea ys.length ec, .int .i64 E]) ∧ RSrc entKind w' ea ys.length ec ys ∧ ys.map (·.e) = Tq.pl b ∧ (∀ ad, ea = some ad → w.heap.size ≤ ad.block) ∧ Below w.heap.size w w' ∧ ∀ y ∈ ys, HeldT w' y :=
  (parse_any ao m c b w hs).mono fun e w' h => by
    rcases h with ⟨L, ao2, c2, ys, hp, rfl, hr, he, hf, hb, ht⟩ | ⟨hp, rfl, hb⟩
    · exact ⟨ao2, c2, ys, 0, rfl, hr, by rw [he, Tq.pl, hp]; rfl, hf, hb, ht⟩
    · exact ⟨none, 0, [], 2, rfl, RSrc.empty (fun _ => rfl), by rw [Tq.pl, hp]; rfl, (fun ad h => by cases h), hb, fun _ h => by cases h⟩
/-- What a piece's entries are, behind the first asking. -/
structure Listed (w : World) (blk : Nat) (raw : List UInt8) (d l : Int) (ea : Option Addr) (ec : Nat) (ys : List EV) (w' : World) : Prop where
  row : w'.heap[blk]? = some (.cells #[.int .u32 d, .int .i32 l, .int .u32 0, .slice none 0 0, .slice ea ys.length ec] 102)
  ents : RSrc entKind w' ea ys.length ec ys
  same : ys.map (·.e) = Tq.pl raw
  far : ∀ ad, ea = some ad → w.heap.size ≤ ad.block
  kept : Kept (· = blk) w w'
  held : ∀ y ∈ ys, HeldT w' y
set_option maxHeartbeats 4000000 in
set_option maxRecDepth 100000 in
theorem list1_any (pb blk : Nat) (ra : Option Addr) (rc : Nat) (raw : List UInt8) (w : World) (hp : w.cell? ⟨pb, 0, none⟩ = some (.pointer (some ⟨blk, 0, none⟩)))
    (hrow : w.heap[blk]? = some (.cells #[.int .u32 0, .int .i32 1, .int .u32 0, .slice ra raw.length rc, .slice none 0 0] 102)) (hs : Src w ra raw.length rc raw) :
    Calls Tryz.prog 76 #[.pointer (some ⟨pb, 0, none⟩)] w fun e w' => e = .returned (.tuple #[]) ∧ ∃ ea ec ys, Listed w blk raw 0 1 ea ec ys w' := by
  have PL := keep (parse_list ra raw.length rc raw w.drew (hs.below (Below.refl _ _).drew))
  have ROW := keep hrow
  have hblk : blk < w.heap.size := (Array.getElem?_eq_some_iff.1 hrow).1
  have hpb : pb < w.heap.size := World.block_lt_of_cell? w _ hp
  have hraw : w.cell? ⟨blk, 3, none⟩ = some (.slice ra raw.length rc) := cell_of_row _ _ _ _ _ _ hrow
  have CP : Hid (∀ w', Below w.heap.size w w' → w'.cell? ⟨pb, 0, none⟩ = some (.pointer (some ⟨blk, 0, none⟩)) ∧ w'.cell? ⟨blk, 3, none⟩ = some (.slice ra raw.length rc)) := fun w' hb => ⟨below_cell hb hp, below_cell hb hraw⟩
  clear hs hrow
  go_enter Tryz.func76, Tryz.ntmps76
  go_wp2_with fail
  refine wp_region_held_drew (S := fun w' => w'.cell? ⟨pb, 0, none⟩ = some (.pointer (some ⟨blk, 0, none⟩)) ∧ w'.cell? ⟨blk, 3, none⟩ = some (.slice ra raw.length rc)) (by kernel_rfl) (CP.out _ (Below.refl _ _).drew) (fun hHeld => ?_)
  refine takeH (i := 0) 2 (v := .pointer (some ⟨blk, 0, none⟩)) rfl rfl (by kernel_rfl) (by kernel_rfl) (by kernel_rfl) (fun _ _ _ h => h) (Or.inl ⟨by rfl, ?_⟩) (by assumption) ?_
  · intro w' hSw'
    obtain ⟨d0, d1⟩ := hSw'
    go_simp
  simp only [Act.put, List.setIfInBounds_toArray, List.set_cons_zero, List.set_cons_succ]
  refine takeH (i := 1) 3 (v := .pointer (some ⟨blk, 0, none⟩)) rfl rfl (by kernel_rfl) (by kernel_rfl) (by kernel_rfl) (fun _ _ _ h => h) (Or.inl ⟨by rfl, ?_⟩) (by assumption) ?_
  · intro w' hSw'
    obtain ⟨d0, d1⟩ := hSw'
    go_simp
  simp only [Act.put, List.setIfInBounds_toArray, List.set_cons_zero, List.set_cons_succ]
  refine takeH (i := 2) 4 (v := .pointer (some ⟨blk, 0, none⟩)) rfl rfl (by kernel_rfl) (by kernel_rfl) (by kernel_rfl) (fun _ _ _ h => h) (Or.inl ⟨by rfl, ?_⟩) (by assumption) ?_
  · intro w' hSw'
    go_simp
  simp only [Act.put, List.setIfInBounds_toArray, List.set_cons_zero, List.set_cons_succ]
  refine takeH (i := 3) 5 (v := .pointer (some ⟨blk, 3, none⟩)) rfl rfl (by kernel_rfl) (by kernel_rfl) (by kernel_rfl) (fun _ _ _ h => h) (Or.inl ⟨by rfl, ?_⟩) (by assumption) ?_
  · intro w' hSw'
    go_simp
  simp only [Act.put, List.setIfInBounds_toArray, List.set_cons_zero, List.set_cons_succ]
  refine takeH (i := 4) 6 (v := .slice ra raw.length rc) rfl rfl (by kernel_rfl) (by kernel_rfl) (by kernel_rfl) (fun _ _ _ h => h) (Or.inl ⟨by rfl, ?_⟩) (by assumption) ?_
  · intro w' hSw'
    obtain ⟨d0, d1⟩ := hSw'
    go_simp
  simp only [Act.put, List.setIfInBounds_toArray, List.set_cons_zero, List.set_cons_succ]
  refine wpAnyH_ready (rs := [5]) (by kernel_rfl) (by simp) ?_
  refine AllReadyH.cons rfl (fun K hK => ?_) AllReadyH.nil
  go_simp
  refine (PL.out).mono ?_
  rintro e w5 ⟨ea, ec, ys, E, rfl, hR5, hsame, hfar, hb5, ht5⟩
  have RS := keep hR5
  have SAME := keep hsame
  have HT := keep ht5
  have FAR : Hid (∀ ad, ea = some ad → w.heap.size ≤ ad.block) := hfar
  have B5 : Hid (Below w.heap.size w w5) := ((Below.refl _ _).drew).trans (hb5.mono (Nat.le_refl _))
  have G5 := keep ((B5.out.block blk hblk).trans ROW.out)
  clear hR5 hsame hfar hb5 ht5
  go_wp2_with fail
  refine hK.out _ _ (CP.out _ B5.out) (fun hHeld1 => ?_)
  clear hK K
  refine takeH (i := 6) 1 (v := .tuple #[.slice ea ys.length ec, .int .i64 E]) rfl rfl (by kernel_rfl) (by kernel_rfl) (by kernel_rfl) (fun _ _ _ h => h) (Or.inl ⟨by rfl, ?_⟩) (by assumption) ?_
  · intro w' hSw'
    go_simp
  simp only [Act.put, List.setIfInBounds_toArray, List.set_cons_zero, List.set_cons_succ]
  refine takeH (i := 7) 8 (v := .slice ea ys.length ec) rfl rfl (by kernel_rfl) (by kernel_rfl) (by kernel_rfl) (fun _ _ _ h => h) (Or.inl ⟨by rfl, ?_⟩) (by assumption) ?_
  · intro w' hSw'
    go_simp
  simp only [Act.put, List.setIfInBounds_toArray, List.set_cons_zero, List.set_cons_succ]
  refine takeH (i := 8) 9 (v := .int .i64 E) rfl rfl (by kernel_rfl) (by kernel_rfl) (by kernel_rfl) (fun _ _ _ h => h) (Or.inl ⟨by rfl, ?_⟩) (by assumption) ?_
  · intro w' hSw'
    go_simp
  simp only [Act.put, List.setIfInBounds_toArray, List.set_cons_zero, List.set_cons_succ]
  refine takeH (i := 9) 10 (v := .pointer (some ⟨blk, 0, none⟩)) rfl rfl (by kernel_rfl) (by kernel_rfl) (by kernel_rfl) (fun _ _ _ h => h) (Or.inl ⟨by rfl, ?_⟩) (by assumption) ?_
  · intro w' hSw'
    go_simp
  simp only [Act.put, List.setIfInBounds_toArray, List.set_cons_zero, List.set_cons_succ]
  refine takeH (i := 10) 11 (v := .pointer (some ⟨blk, 4, none⟩)) rfl rfl (by kernel_rfl) (by kernel_rfl) (by kernel_rfl) (fun _ _ _ h => h) (Or.inl ⟨by rfl, ?_⟩) (by assumption) ?_
  · intro w' hSw'
    go_simp
  simp only [Act.put, List.setIfInBounds_toArray, List.set_cons_zero, List.set_cons_succ]
  refine wpAnyH_ready (rs := [11]) (by kernel_rfl) (by simp) ?_
  refine AllReadyH.cons rfl (fun K hK => ?_) AllReadyH.nil
  have d4 : w5.cell? ⟨blk, 4, none⟩ = some (.slice none 0 0) := cell_of_row _ _ _ _ _ _ G5.out
  have f4 : w5.frozen? ⟨blk, 4, none⟩ = false := by simp [World.frozen?, G5.out]
  obtain ⟨w6, hw6⟩ : ∃ w6, w5.setCell ⟨blk, 4, none⟩ (.slice ea ys.length ec) = w6 := ⟨_, rfl⟩
  have HW6 := keep hw6
  have G6 : Hid (w6.heap[blk]? = some (.cells #[.int .u32 0, .int .i32 1, .int .u32 0, .slice ra raw.length rc, .slice ea ys.length ec] 102)) := by rw [← hw6]; exact set_row G5.out 4 _
  have E6 : Hid (w6.cell? ⟨pb, 0, none⟩ = some (.pointer (some ⟨blk, 0, none⟩))) := by rw [← hw6]; exact (World.cell?_setCell_other _ ⟨blk, 4, none⟩ ⟨pb, 0, none⟩ _ (fun h => by cases h)).trans (CP.out _ B5.out).1
  have E7 : Hid (w6.cell? ⟨blk, 3, none⟩ = some (.slice ra raw.length rc)) := cell_of_row _ _ _ _ _ _ G6.out
  go_simp
  refine hK.out _ _ (⟨E6.out, E7.out⟩) (fun hHeld2 => ?_)
  clear hK K
  refine wpAnyH_done (by kernel_rfl) ?_ _
  have pe := E6.out
  have e3 := E7.out
  have f3 : w6.frozen? ⟨blk, 3, none⟩ = false := by simp [World.frozen?, G6.out]
  go_wp2
  go_end0
  refine ⟨rfl, ea, ec, ys, ?_, ?_, SAME.out, FAR.out, ?_, ?_⟩
  · have := set_row G6.out 3 (.slice none 0 0)
    exact this
  · refine rsrc_far G6.out no_bool5 no_byte5 (set_kept _ blk _ _) ?_
    rw [← HW6.out]
    exact rsrc_far G5.out no_bool5 no_byte5 (set_kept _ blk _ _) RS.out
  · rw [← HW6.out]
    exact (Kept.of_below B5.out).trans ((set_kept _ blk _ _).trans (set_kept _ blk _ _))
  · intro y hy
    refine HeldT.turn ?_ (T5.of_kept G6.out (by decide) (set_kept _ blk _ _))
    rw [← HW6.out]
    exact (HT.out y hy).turn (T5.of_kept G5.out (by decide) (set_kept _ blk _ _))
/-- Is the Once done? -/
theorem once_load (a : Addr) (d : Int) (y : Bool) (w : World) (hd : (d != 0) = y) (h : w.cell? a = some (.int .u32 d)) :
    Calls Tryz.prog 86 #[.pointer (some a)] w fun e w' => e = .returned (.bool y) ∧ w' = w := by
  have hl := run_call_load (P := Tryz.prog) Tryz.func94 (by kernel_rfl) (by kernel_rfl) (by kernel_rfl) .u32 (by kernel_rfl) h
  go_enter Tryz.func86, Tryz.ntmps86
  go_wp2
  go_ret
  exact ⟨rfl, rfl⟩
set_option maxHeartbeats 4000000 in
set_option maxRecDepth 100000 in
theorem slow_list (pb blk : Nat) (ra : Option Addr) (rc : Nat) (raw : List UInt8) (w : World) (hp : w.cell? ⟨pb, 0, none⟩ = some (.pointer (some ⟨blk, 0, none⟩))) (hne : pb ≠ blk)
    (hrow : w.heap[blk]? = some (.cells #[.int .u32 0, .int .i32 0, .int .u32 0, .slice ra raw.length rc, .slice none 0 0] 102)) (hs : Src w ra raw.length rc raw) :
    Calls Tryz.prog 87 #[.pointer (some ⟨blk, 0, none⟩), .func (.func 76) #[] #[.pointer (some ⟨pb, 0, none⟩)]] w fun e w' => e = .returned (.tuple #[]) ∧ ∃ ea ec ys, Listed w blk raw 1 0 ea ec ys w' := by
  have h0 : w.cell? ⟨blk, 0, none⟩ = some (.int .u32 0) := cell_of_row _ _ _ _ _ _ hrow
  have h1 : w.cell? ⟨blk, 1, none⟩ = some (.int .i32 0) := cell_of_row _ _ _ _ _ _ hrow
  have f1 : w.frozen? ⟨blk, 1, none⟩ = false := by simp [World.frozen?, hrow]
  have G1 : Hid ((w.setCell ⟨blk, 1, none⟩ (.int .i32 1)).heap[blk]? = some (.cells #[.int .u32 0, .int .i32 1, .int .u32 0, .slice ra raw.length rc, .slice none 0 0] 102)) := set_row hrow 1 _
  have LD := keep (once_load ⟨blk, 0, none⟩ 0 false (w.setCell ⟨blk, 1, none⟩ (.int .i32 1)) rfl (cell_of_row _ _ _ _ _ _ G1.out))
  have LL := keep (list1_any pb blk ra rc raw (w.setCell ⟨blk, 1, none⟩ (.int .i32 1)) ((World.cell?_setCell_other _ ⟨blk, 1, none⟩ ⟨pb, 0, none⟩ _ (fun h => by cases h)).trans hp) G1.out (src_kept' hrow no_byte5 (set_kept _ blk _ _) hs))
  have ROW := keep hrow
  have hblk : blk < w.heap.size := (Array.getElem?_eq_some_iff.1 hrow).1
  clear hrow hs hp
  go_enter_defers Tryz.func87, Tryz.ntmps87
  go_wp2_with fail
  refine (once_lock ⟨blk, 1, none⟩ _ h1 f1).mono ?_
  rintro e w' ⟨rfl, rfl⟩
  go_wp2_with fail
  refine LD.out.mono ?_
  rintro e w' ⟨rfl, rfl⟩
  go_wp2_with fail
  refine LL.out.mono ?_
  rintro e w5 ⟨rfl, ea, ec, ys, hL⟩
  have HL := keep hL
  clear hL LL LD
  go_wp2
  refine leaves_cons (f := 97) (args := #[.pointer (some ⟨blk, 0, none⟩), .bool true]) (by simp) (by simp [go_sem]) ?_
  refine (once_store ⟨blk, 0, none⟩ (.int .u32 0) .returning _ (cell_of_row _ _ _ _ _ _ HL.out.row) (by simp [World.frozen?, HL.out.row])).mono ?_
  rintro e u' w'' ⟨rfl, rfl, rfl⟩
  have g6 : (w5.drew.setCell ⟨blk, 0, none⟩ (.int .u32 1)).heap[blk]? = some (.cells #[.int .u32 1, .int .i32 1, .int .u32 0, .slice none 0 0, .slice ea ys.length ec] 102) := set_row (w := w5.drew) HL.out.row 0 _
  refine leaves_cons (f := 96) (args := #[.pointer (some ⟨blk, 1, none⟩)]) (by simp [settle]) (by simp [go_sem]) ?_
  refine (once_unlock ⟨blk, 1, none⟩ _ _ (cell_of_row _ _ _ _ _ _ g6) (by simp [World.frozen?, g6])).mono ?_
  rintro e u' w'' ⟨rfl, rfl, rfl⟩
  have g7 := set_row g6 1 (.int .i32 0)
  have K1 : Kept (· = blk) w w5 := (set_kept w blk 1 (.int .i32 1)).trans HL.out.kept
  have KL : Kept (· = blk) w5 ((w5.drew.setCell ⟨blk, 0, none⟩ (.int .u32 1)).setCell ⟨blk, 1, none⟩ (.int .i32 0)) := (Kept.of_below (Below.refl _ _).drew).trans ((set_kept _ blk _ _).trans (set_kept _ blk _ _))
  have FIN : Listed w blk raw 1 0 ea ec ys ((w5.drew.setCell ⟨blk, 0, none⟩ (.int .u32 1)).setCell ⟨blk, 1, none⟩ (.int .i32 0)) :=
    ⟨g7, rsrc_far HL.out.row no_bool5 no_byte5 KL HL.out.ents, HL.out.same, fun ad had => by have := HL.out.far ad had; simpa using this, K1.trans KL, fun y hy => (HL.out.held y hy).turn (T5.of_kept HL.out.row (by decide) KL)⟩
  simp only [Leaves, settle]
  exact ⟨.tuple #[], by simp [results, Tryz.results87], rfl, ea, ec, ys, FIN⟩
set_option maxHeartbeats 1000000 in
set_option maxRecDepth 100000 in
theorem do_first (pb blk : Nat) (ra : Option Addr) (rc : Nat) (raw : List UInt8) (w : World) (hp : w.cell? ⟨pb, 0, none⟩ = some (.pointer (some ⟨blk, 0, none⟩))) (hne : pb ≠ blk)
    (hrow : w.heap[blk]? = some (.cells #[.int .u32 0, .int .i32 0, .int .u32 0, .slice ra raw.length rc, .slice none 0 0] 102)) (hs : Src w ra raw.length rc raw) :
    Calls Tryz.prog 75 #[.pointer (some ⟨blk, 0, none⟩), .func (.func 76) #[] #[.pointer (some ⟨pb, 0, none⟩)]] w fun e w' => e = .returned (.tuple #[]) ∧ ∃ ea ec ys, Listed w blk raw 1 0 ea ec ys w' := by
  have LD := keep (once_load ⟨blk, 0, none⟩ 0 false w rfl (cell_of_row _ _ _ _ _ _ hrow))
  have SL := keep (slow_list pb blk ra rc raw w hp hne hrow hs)
  clear hp hne hrow hs
  go_enter Tryz.func75, Tryz.ntmps75
  go_wp2_with fail
  refine LD.out.mono ?_
  rintro e w' ⟨rfl, rfl⟩
  go_wp2_with fail
  refine SL.out.mono ?_
  rintro e w5 ⟨rfl, hL⟩
  have HL := keep hL
  clear hL
  go_wp2
  go_end0
  exact ⟨rfl, HL.out⟩
set_option maxHeartbeats 1000000 in
set_option maxRecDepth 100000 in
theorem do_done (a : Addr) (fv : Value) (w : World) (h : w.cell? a = some (.int .u32 1)) :
    Calls Tryz.prog 75 #[.pointer (some a), fv] w fun e w' => e = .returned (.tuple #[]) ∧ w' = w := by
  have LD := keep (once_load a 1 true w rfl h)
  clear h
  go_enter Tryz.func75, Tryz.ntmps75
  go_wp2_with fail
  refine LD.out.mono ?_
  rintro e w' ⟨rfl, rfl⟩
  go_wp2
  go_end0
  exact ⟨rfl, rfl⟩
set_option maxHeartbeats 1000000 in
set_option maxRecDepth 100000 in
/-- A piece is asked the first time. -/
theorem list_first (blk : Nat) (ra : Option Addr) (rc : Nat) (raw : List UInt8) (w : World)
    (hrow : w.heap[blk]? = some (.cells #[.int .u32 0, .int .i32 0, .int .u32 0, .slice ra raw.length rc, .slice none 0 0] 102)) (hs : Src w ra raw.length rc raw) :
    Calls Tryz.prog 46 #[.pointer (some ⟨blk, 0, none⟩)] w fun e w' => ∃ ea ec ys, e = .returned (.slice ea ys.length ec) ∧ Listed w blk raw 1 0 ea ec ys w' := by
  have hmf : ∀ (fn : Fn) (first cap : Array Value) (w : World), (Instr.makeFunc fn first cap).run Tryz.prog w = .ok (.func fn first cap) w := fun _ _ _ _ => rfl
  have hblk : blk < w.heap.size := (Array.getElem?_eq_some_iff.1 hrow).1
  obtain ⟨W1, hW1⟩ : ∃ W1, w.alloc (.cells #[.pointer (some ⟨blk, 0, none⟩)] 68) = W1 := ⟨_, rfl⟩
  have b1 : Hid (Below w.heap.size w W1) := by rw [← hW1]; exact (Below.refl _ _).alloc (Nat.le_refl _) _
  have c1 : W1.cell? ⟨w.heap.size, 0, none⟩ = some (.pointer (some ⟨blk, 0, none⟩)) := by rw [← hW1]; exact cell_of_row _ _ _ _ _ _ (heap_alloc_new w _)
  have DO := keep (do_first w.heap.size blk ra rc raw W1 c1 (by omega) ((b1.out.block _ hblk).trans hrow) (hs.below b1.out))
  have hsz : w.heap.size < W1.heap.size := by rw [← hW1]; simp
  clear hrow hs
  go_enter Tryz.func46, Tryz.ntmps46
  go_wp2_with fail
  refine DO.out.mono ?_
  rintro e w5 ⟨rfl, ea, ec, ys, hL⟩
  have d1 : w5.cell? ⟨w.heap.size, 0, none⟩ = some (.pointer (some ⟨blk, 0, none⟩)) := (hL.kept.cell (p := ⟨w.heap.size, 0, none⟩) hsz (fun e => by have h : w.heap.size = blk := e; omega)).trans c1
  have d2 : w5.cell? ⟨blk, 4, none⟩ = some (.slice ea ys.length ec) := cell_of_row _ _ _ _ _ _ hL.row
  have FIN : Hid (Listed w blk raw 1 0 ea ec ys w5) := ⟨hL.row, hL.ents, hL.same, fun ad had => Nat.le_trans b1.out.size (hL.far ad had), (Kept.of_below b1.out).trans hL.kept, hL.held⟩
  clear hL DO c1
  go_wp2
  go_ret
  exact ⟨ea, ec, ys, rfl, FIN.out⟩
set_option maxHeartbeats 1000000 in
set_option maxRecDepth 100000 in
/-- A piece is asked again. -/
theorem list_again (blk : Nat) (ea : Option Addr) (n ec : Nat) (w : World)
    (hrow : w.heap[blk]? = some (.cells #[.int .u32 1, .int .i32 0, .int .u32 0, .slice none 0 0, .slice ea n ec] 102)) :
    Calls Tryz.prog 46 #[.pointer (some ⟨blk, 0, none⟩)] w fun e w' => e = .returned (.slice ea n ec) ∧ Below w.heap.size w w' := by
  have hmf : ∀ (fn : Fn) (first cap : Array Value) (w : World), (Instr.makeFunc fn first cap).run Tryz.prog w = .ok (.func fn first cap) w := fun _ _ _ _ => rfl
  have hblk : blk < w.heap.size := (Array.getElem?_eq_some_iff.1 hrow).1
  obtain ⟨W1, hW1⟩ : ∃ W1, w.alloc (.cells #[.pointer (some ⟨blk, 0, none⟩)] 68) = W1 := ⟨_, rfl⟩
  have b1 : Hid (Below w.heap.size w W1) := by rw [← hW1]; exact (Below.refl _ _).alloc (Nat.le_refl _) _
  have c1 : W1.cell? ⟨w.heap.size, 0, none⟩ = some (.pointer (some ⟨blk, 0, none⟩)) := by rw [← hW1]; exact cell_of_row _ _ _ _ _ _ (heap_alloc_new w _)
  have d0 : W1.cell? ⟨blk, 0, none⟩ = some (.int .u32 1) := below_cell b1.out (cell_of_row _ _ _ _ _ _ hrow)
  have d2 : W1.cell? ⟨blk, 4, none⟩ = some (.slice ea n ec) := below_cell b1.out (cell_of_row _ _ _ _ _ _ hrow)
  clear hrow
  go_enter Tryz.func46, Tryz.ntmps46
  go_wp2_with fail
  refine (do_done ⟨blk, 0, none⟩ _ W1 d0).mono ?_
  rintro e w5 ⟨rfl, rfl⟩
  go_wp2
  go_ret
  exact ⟨rfl, b1.out⟩
end Go.Proofs.YtjblicgbdecbcaaGreat
