/- The walk of WalRoom. -/
import Derived.Test.YtohnfogdalnilaaDoorWv
import Derived.Test.YtohnfogdalnilaaDoorAn
namespace Go.Proofs.YtohnfogdalnilaaDoor
open Go.RowKit
open Dk (File Disk)

theorem isSeg_small {k : Nat} (h : k ≤ 65535) : isSeg (k : Int) = true := by simp [isSeg]; omega
theorem one_body (w : World) (g : Nat) (ao : Option Addr) (m c : Nat) (body : List UInt8) (hg : w.heap[g]? = some (.cells #[.slice ao m c] 30)) (hs : Src w ao m c body) : RSrc byteKind w (some ⟨g, 0, none⟩) 1 1 [⟨ao, c, body⟩] :=
  ⟨rfl, Nat.le_refl _, (fun e => by cases e), fun ad had j u hu => by
    cases had
    have hl := hs.len
    rw [Addr.add_mid, Nat.zero_add, cell_of_row _ _ _ _ _ _ hg]
    simp only [rv, byteKind, hl, List.append_nil] at hu
    simpa using hu, fun e he => by
    rw [List.mem_singleton.1 he]
    show Src w ao body.length c body
    rw [hs.len]; exact hs⟩
set_option maxHeartbeats 4000000 in
set_option maxRecDepth 100000 in
theorem walRoom_walk (n : Int) (ao : Option Addr) (m c : Nat) (body : List UInt8) (fr : Int) (w : World) (ht : Tab w) (hw : 0 < w.heap.size) (_hn : -9223372036854775808 ≤ n ∧ n < 9223372036854775808) (hs : Src w ao m c body) (hc : c ≤ maxLen) (_hf : -9223372036854775808 ≤ fr ∧ fr < 9223372036854775808) :
    Calls Tryd.prog 4 #[.int .i64 n, .slice ao m c, .int .i64 fr] w fun e w' => e = .returned (.bool true) ∧ Below w.heap.size w w' := by
  have ha := keep (awake_any w ht hw)
  obtain ⟨K, hK, hK1⟩ := and_le fr 8191 (by decide)
  have hK2 : bits BinOp.and IntKind.i64 fr 8191 = (K : Int) := hK
  obtain ⟨k, hk, hk1⟩ := and_le n 65535 (by decide)
  have hk2 : bits BinOp.and IntKind.i64 n 65535 = (k : Int) := hk
  have hseg := keep (isSeg_small hk1)
  have HT : Hid (∀ w', Below w.heap.size w w' → Tab w' ∧ 0 < w'.heap.size) := fun w' hb => ⟨ht.below hb hw, Nat.lt_of_lt_of_le hw hb.size⟩
  have HS := keep hs
  have hmc := hs.cap
  have hml : m ≤ 9223372036854775807 := by unfold maxLen at hc; omega
  clear hK hk ht hw hs hc hk1
  go_enter Tryd.func4, Tryd.ntmps4
  go_wp2_with fail
  refine ha.out.mono ?_
  rintro e w1 ⟨rfl, hb1⟩
  have B1 := keep hb1
  have hn := keep (new_mem K w1 (by omega))
  clear ha hb1
  go_wp2_with fail
  refine hn.out.mono ?_
  rintro e w2 ⟨b, S, rfl, hm, hS, hb, hbel⟩
  have H2 : Hid (Own Noone w S w2 b ⟨K, [], 0, none, false⟩) := ⟨hm, fun g hg => .inr (Nat.le_trans B1.out.size (hS g hg)), .inr (Nat.le_trans B1.out.size hb), Kept.of_below (B1.out.trans (hbel.mono B1.out.size))⟩
  clear hm hS hbel hn hb
  by_cases hm : 100000 < m
  · have hm2 : (100000 : Int) < (m : Int) := by omega
    go_wp2
    go_ret
    exact ⟨rfl, H2.out.below⟩
  have hm2 : ¬ (100000 : Int) < (m : Int) := by omega
  have hbl : body.length = m := HS.out.len
  have hsrc : Hid (∀ w', Below w2.heap.size w2 w' → Src w' ao m c body) := fun w' hb => HS.out.below (H2.out.below.trans (hb.mono H2.out.below.size))
  have ND := keep (need_mem S b _ (k : Int) ao m c body w2 H2.out.mem (HT.out w2 H2.out.below).1 hsrc.out (by omega))
  have hfl := frame_le (body := body) (by omega)
  have hro : roomOf (⟨K, [], 0, none, false⟩ : Disk) (segName (k : Int)) (frame body).length = (frame body).length + 33 := by simp [roomOf, Dk.look, segName_len hseg.out]
  rw [hro] at ND
  obtain ⟨Z, hZ⟩ : ∃ Z, (frame body).length + 33 = Z := ⟨_, rfl⟩
  rw [hZ] at ND
  have HZ := keep hZ
  clear hro hZ hm
  go_wp2_with fail
  refine ND.out.mono ?_
  rintro e w3 ⟨rfl, hb3⟩
  have H3 := keep (H2.out.next hb3)
  have B3 := keep hb3
  have AD := keep (add_own Noone w S w3 b _ (k : Int) ao m c body H3.out (HT.out w3 H3.out.below).1 (HT.out w3 H3.out.below).2 (fun w' hb => hsrc.out w' (B3.out.trans (hb.mono B3.out.size))) (by show 0 ≤ _; omega))
  clear hb3 ND H2
  by_cases hroom : K < Z
  · have hr2 : (K : Int) < (Z : Int) := by omega
    rw [show walAdd (⟨K, [], 0, none, false⟩ : Disk) (k : Int) body = (4, ⟨K, [], 0, none, false⟩) from wal_none hseg.out (by omega) (by have := HZ.out; omega)] at AD
    go_wp2_with fail
    refine AD.out.mono ?_
    rintro e w4 ⟨S4, rfl, hO⟩
    have H4 := keep hO
    have OP : Hid (Calls Tryd.prog 15 #[.pointer (some ⟨b, 0, none⟩)] w4 fun e w' => e = .returned (.int .i64 0) ∧ Below w4.heap.size w4 w') := ops_mem S4 b _ w4 hO.mem
    clear hO AD hroom
    rw [show ((4 : Nat) : Int) = 4 from rfl]
    go_wp2_with fail
    refine OP.out.mono ?_
    rintro e w5 ⟨rfl, hb5⟩
    have H5 := keep (H4.out.next hb5)
    clear hb5 OP
    go_wp2
    go_ret
    exact ⟨rfl, H5.out.below⟩
  · have hr2 : ¬ (K : Int) < (Z : Int) := by omega
    rw [show walAdd (⟨K, [], 0, none, false⟩ : Disk) (k : Int) body = (0, one K (segName (k : Int)) (frame body) ((chunksOf (frame body)).length + 1)) from wal_new hseg.out (by omega) (by have := HZ.out; omega)] at AD
    have hfb : Hid (33 + (frame body).length = Z) := by have := HZ.out; show _ = _; omega
    go_wp2_with fail
    refine AD.out.mono ?_
    rintro e w4 ⟨S4, rfl, hO⟩
    have H4 := keep hO
    have RP := keep (replay_mem S4 b _ (k : Int) w4 hO.mem (HT.out w4 hO.below).1 (by show K ≤ _; omega))
    have hrp := replay_one (c := K) (k := (chunksOf (frame body)).length + 1) (y := frame body) hseg.out
    have hbf := bodies_frame (B := body) (R := []) (by omega)
    rw [List.append_nil, bodies_nil] at hbf
    rw [hbf] at hrp
    rw [hrp] at RP
    have hu : Dk.used (one K (segName (k : Int)) (frame body) ((chunksOf (frame body)).length + 1)).files = Z := by
      have := hfb.out
      simp only [one, Dk.used, Dk.cost, segName_len hseg.out]
      omega
    have FR := keep (fun w' (hb : Below w4.heap.size w4 w') => free_mem S4 b _ w' (hO.mem.below hb))
    rw [hu] at FR
    clear hO AD hroom hrp hbf hu
    go_wp2_with fail
    refine RP.out.mono ?_
    rintro e w5 (⟨h, _⟩ | ⟨_, a5, c5, es, rfl, hR, hes, hc5, hb5⟩)
    · exact absurd rfl h
    have B5 := keep hb5
    have H5 := keep (H4.out.next hb5)
    have hel : es.length = 1 := by have := congrArg List.length hes; simpa using this
    have R5 := keep hR
    have E5 := keep hes
    clear RP hR hes hb5 hc5
    rw [hel] at R5 ⊢
    go_wp2_with fail
    refine (FR.out w5 B5.out).mono ?_
    rintro e w6 ⟨rfl, hb6⟩
    have H6 := keep (H5.out.next hb6)
    have B6 := keep hb6
    clear hb6 FR
    have hwk : IntKind.i64.wrap ((K : Int) - (Z : Int)) = (K : Int) - (Z : Int) := wrap_small _ (by omega) (by omega)
    go_wp2_with fail
    have b7 := keep ((Below.refl w6.heap.size w6).alloc (Nat.le_refl _) (.cells #[.slice ao m c] 30))
    have sm := same_bodies a5 1 c5 es (some ⟨w6.heap.size, 0, none⟩) 1 1 [⟨ao, c, body⟩] (w6.alloc (.cells #[.slice ao m c] 30)) ((R5.out.below byteKind_ok B6.out).below byteKind_ok b7.out) (one_body _ _ ao m c body (heap_alloc_new w6 _) (HS.out.below (H6.out.below.trans (b7.out.mono H6.out.below.size)))) (by omega)
    rw [decide_eq_true (show es.map ByteE.bytes = [(⟨ao, c, body⟩ : ByteE)].map ByteE.bytes from E5.out)] at sm
    refine sm.mono ?_
    rintro e w8 ⟨rfl, hb8⟩
    have H8 := keep ((H6.out.next b7.out).next hb8)
    clear hb8 sm
    go_wp2
    go_ret
    exact ⟨rfl, H8.out.below⟩
end Go.Proofs.YtohnfogdalnilaaDoor
