/- The walk of awake. -/
import Derived.Test.YtohnfogdalnilaaDoorWq
namespace Go.Proofs.YtohnfogdalnilaaDoor
open Go.RowKit
open Dk (File Disk)

abbrev Noone : Nat → Prop := fun _ => False
theorem seg7 : segName 7 = [119, 97, 108, 47, 48, 48, 48, 48, 48, 48, 48, 48, 48, 48, 48, 48, 55] := by decide +kernel
theorem frame_le {body : List UInt8} (h : body.length ≤ 1048576) : (frame body).length ≤ body.length + 13 := by
  have h1 := frame_length body
  have h2 := num_le body.length (by omega)
  omega
theorem chunks_le {body : List UInt8} (h : body.length ≤ 1048576) : (chunksOf (frame body)).length ≤ 1000 := by
  rw [chunksOf_length]
  have := frame_le h
  omega
theorem two_bodies {es : List ByteE} {a b : List UInt8} (h : es.map ByteE.bytes = [a, b]) : ∃ p1 k1 p2 k2, es = [⟨p1, k1, a⟩, ⟨p2, k2, b⟩] := by
  match es, h with
  | [⟨p1, k1, x⟩, ⟨p2, k2, y⟩], h =>
    simp only [List.map_cons, List.map_nil, List.cons.injEq, and_true] at h
    obtain ⟨rfl, rfl⟩ := h
    exact ⟨p1, k1, p2, k2, rfl⟩
theorem aw1 : walAdd ⟨1000, [], 0, none, false⟩ 7 [97, 98] = (0, one 1000 (segName 7) (frame [97, 98]) ((chunksOf (frame [97, 98])).length + 1)) :=
  wal_new (by decide) (by decide) (by have := frame_le (body := [97, 98]) (by decide); have : ([97, 98] : List UInt8).length = 2 := rfl; omega)
theorem aw2 : walAdd (one 1000 (segName 7) (frame [97, 98]) ((chunksOf (frame [97, 98])).length + 1)) 7 [99, 100] = (0, one 1000 (segName 7) (frame [97, 98] ++ frame [99, 100]) ((chunksOf (frame [97, 98])).length + 1 + (chunksOf (frame [99, 100])).length + 1)) :=
  wal_more (by decide) (by decide) (by have := frame_le (body := [97, 98]) (by decide); have := frame_le (body := [99, 100]) (by decide); have : ([97, 98] : List UInt8).length = 2 := rfl; have : ([99, 100] : List UInt8).length = 2 := rfl; omega)
theorem aw3 (k : Nat) : replayOf (one 1000 (segName 7) (frame [97, 98] ++ frame [99, 100]) k) 7 = (0, [[97, 98], [99, 100]]) := by
  rw [replay_one (by decide), bodies_frame (by decide)]
  have := bodies_frame (B := [99, 100]) (R := []) (by decide)
  rw [List.append_nil] at this
  rw [this, bodies_nil]

set_option maxHeartbeats 2000000 in
set_option maxRecDepth 100000 in
theorem awake_any (w : World) (ht : Tab w) (hw : 0 < w.heap.size) : Calls Tryd.prog 6 #[] w fun e w' => e = .returned (.bool true) ∧ Below w.heap.size w w' := by
  have hcv := conv_const
  have hn := keep (new_mem 1000 w (by omega))
  rw [show ((1000 : Nat) : Int) = 1000 from rfl] at hn
  have HT : Hid (∀ w', Below w.heap.size w w' → Tab w' ∧ 0 < w'.heap.size) := fun w' hb => ⟨ht.below hb hw, Nat.lt_of_lt_of_le hw hb.size⟩
  clear ht hw
  go_enter Tryd.func6, Tryd.ntmps6
  go_wp2_with fail
  refine hn.out.mono ?_
  rintro e w1 ⟨b, S, rfl, hm, hS, hb, hbel⟩
  have H1 : Hid (Own Noone w S w1 b ⟨1000, [], 0, none, false⟩) := ⟨hm, fun g hg => .inr (hS g hg), .inr hb, Kept.of_below hbel⟩
  clear hm hS hbel hn hb
  go_wp2_with fail
  have O2 := H1.out.next ((Below.refl _ _).alloc (Nat.le_refl _) (.cells #[.int .u8 97, .int .u8 98] 5 (2, 3)))
  have h2 := add_own Noone w S (w1.alloc (.cells #[.int .u8 97, .int .u8 98] 5 (2, 3))) b ⟨1000, [], 0, none, false⟩ 7 (some ⟨w1.heap.size, 0, none⟩) 2 2 [97, 98] O2 (HT.out _ O2.below).1 (HT.out _ O2.below).2 (fun w' hb => (Src.block (l := [97, 98]) (heap_alloc_new w1 _) rfl).below hb) (by decide)
  rw [aw1] at h2
  refine h2.mono ?_
  rintro e w2 ⟨S2, rfl, hO⟩
  have H2 := keep hO
  have hk1 := chunks_le (body := [97, 98]) (by decide)
  have A2 := keep aw2
  have A3 := keep aw3
  obtain ⟨F1, hF1⟩ : ∃ F, frame [97, 98] = F := ⟨_, rfl⟩
  obtain ⟨F2, hF2⟩ : ∃ F, frame [99, 100] = F := ⟨_, rfl⟩
  rw [hF1] at hk1 H2
  rw [hF1, hF2] at A2 A3
  obtain ⟨k1, hK1⟩ : ∃ k, (chunksOf F1).length + 1 = k := ⟨_, rfl⟩
  rw [hK1] at A2 H2
  have hk1' : k1 ≤ 1001 := by omega
  clear hO h2 H1 O2 hF1 hF2 hK1 hk1
  go_wp2_with fail
  have O3 := H2.out.next ((Below.refl _ _).alloc (Nat.le_refl _) (.cells #[.int .u8 99, .int .u8 100] 5 (2, 3)))
  have h3 := add_own Noone w S2 (w2.alloc (.cells #[.int .u8 99, .int .u8 100] 5 (2, 3))) b _ 7 (some ⟨w2.heap.size, 0, none⟩) 2 2 [99, 100] O3 (HT.out _ O3.below).1 (HT.out _ O3.below).2 (fun w' hb => (Src.block (l := [99, 100]) (heap_alloc_new w2 _) rfl).below hb) (by show k1 ≤ _; omega)
  rw [A2.out] at h3
  refine h3.mono ?_
  rintro e w3 ⟨S3, rfl, hO⟩
  have H3 := keep hO
  obtain ⟨k2, hK2⟩ : ∃ k, k1 + (chunksOf F2).length + 1 = k := ⟨_, rfl⟩
  rw [hK2] at H3
  clear hO h3 H2 O3 hK2 A2 hk1'
  go_wp2_with fail
  have h4 := replay_mem S3 b _ 7 w3 H3.out.mem (HT.out _ H3.out.below).1 (by show 1000 ≤ _; omega)
  rw [A3.out] at h4
  refine h4.mono ?_
  rintro e w4 (⟨h, _⟩ | ⟨_, ao, c, es, rfl, hR, hes, hc, hb4⟩)
  · exact absurd rfl h
  obtain ⟨p1, q1, p2, q2, rfl⟩ := two_bodies hes
  have B4 := keep (H3.out.below.trans (hb4.mono H3.out.below.size))
  obtain ⟨br, off, rfl, _, hat⟩ := row_at hR (by simp)
  have c0 := hat 0 _ rfl
  have c1 := hat 1 _ rfl
  simp only [Nat.add_zero] at c0
  have s0 := conv_src (hR.held ⟨p1, q1, [97, 98]⟩ (by simp) : Src w4 p1 _ q1 [97, 98])
  have s1 := conv_src (hR.held ⟨p2, q2, [99, 100]⟩ (by simp) : Src w4 p2 _ q2 [99, 100])
  
  simp only [List.length_cons, List.length_nil, Nat.zero_add, Nat.reduceAdd] at c0 c1 s0 s1 ⊢
  clear hat hR hes h4 H3 A3 hc
  have N7 := keep (name_any 7 w4 (HT.out w4 B4.out).1)
  rw [seg7] at N7
  go_wp2_with fail
  refine N7.out.mono ?_
  rintro e w5 ⟨rfl, hb5⟩
  have B5 := keep (B4.out.trans (hb5.mono B4.out.size))
  have N0 := keep (name_any (-1) w5 (HT.out w5 B5.out).1)
  rw [segName_none (by decide)] at N0
  clear hb5 N7
  go_wp2_with fail
  refine N0.out.mono ?_
  rintro e w6 ⟨rfl, hb6⟩
  have B6 := keep (B5.out.trans (hb6.mono B5.out.size))
  clear hb6 N0
  go_wp2
  go_ret
  exact ⟨rfl, B6.out⟩
end Go.Proofs.YtohnfogdalnilaaDoor
