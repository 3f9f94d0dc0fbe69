/- The walks of wal's Need and of Same. -/
import Derived.Test.YtohnfogdalnilaaDoorWp
namespace Go.Proofs.YtohnfogdalnilaaDoor
open Go.RowKit
open Dk (File Disk)

set_option maxHeartbeats 1000000 in
set_option maxRecDepth 100000 in
theorem need_mem (S : Nat → Prop) (b : Nat) (d : Disk) (n : Int) (ao : Option Addr) (m c : Nat) (body : List UInt8) (w : World) (h : Mem S w b d) (ht : Tab w) (hs : ∀ w', Below w.heap.size w w' → Src w' ao m c body) (hm : m ≤ 1048576) :
    Calls Tryd.prog 14 #[.pointer (some ⟨b, 0, none⟩), .int .i64 n, .slice ao m c] w fun e w' => e = .returned (.int .i64 (roomOf d (segName n) (frame body).length : Int)) ∧ Below w.heap.size w w' := by
  have HM := keep h
  have HS := keep hs
  have hN := keep (name_any n w ht)
  have hsl := seg_len n
  have hbl : body.length = m := (hs w (Below.refl _ _)).len
  have hfl : (frame body).length ≤ 1048589 := by
    have h1 := frame_length body
    have h2 := num_le body.length (by omega)
    omega
  obtain ⟨N, hNN⟩ : ∃ N, segName n = N := ⟨_, rfl⟩
  rw [hNN] at hN hsl ⊢
  clear h ht hs
  go_enter Tryd.func14, Tryd.ntmps14
  go_wp2_with fail
  refine hN.out.mono ?_
  rintro e w1 ⟨rfl, hb1⟩
  have B1 := keep hb1
  have PF := keep (putFrame_any none 0 0 [] ao m c body w1 (by omega) (src_nil w1) (HS.out w1 hb1))
  clear hb1 hN
  go_wp2_with fail
  refine PF.out.mono ?_
  rintro e w2 ⟨v2, rfl, hv2⟩
  simp only [Nat.zero_add, List.nil_append] at hv2
  obtain ⟨a2, k2, rfl, _, _⟩ := hv2.src
  have B2 := keep (B1.out.trans (hv2.2.mono B1.out.size))
  have RM := keep (room_mem S b d N a2 (frame body).length k2 w2 (HM.out.below B2.out) (by omega) (by omega))
  obtain ⟨L, hL⟩ : ∃ L, (frame body).length = L := ⟨_, rfl⟩
  rw [hL] at RM ⊢
  have HL := keep hL
  clear hv2 PF hL hfl
  go_wp2_with fail
  refine RM.out.mono ?_
  rintro e w3 ⟨rfl, hb3⟩
  have B3 := keep (B2.out.trans (hb3.mono B2.out.size))
  clear hb3 RM
  go_wp2
  go_ret
  rw [HL.out]
  exact ⟨rfl, B3.out⟩

theorem row_at {w : World} {ao : Option Addr} {n c : Nat} {es : List ByteE} (h : RSrc byteKind w ao n c es) (hn : 0 < n) : ∃ b off, ao = some ⟨b, off, none⟩ ∧ b < w.heap.size ∧ ∀ (i : Nat) e, es[i]? = some e → w.cell? ⟨b, off + i, none⟩ = some (.slice e.ptr e.bytes.length e.cap) := by
  obtain ⟨b, off, h1, h2, h3⟩ := h.form byteKind_ok hn
  refine ⟨b, off, h1, h2, fun i e he => ?_⟩
  have := h3 i e he 0 (.slice e.ptr e.bytes.length e.cap) rfl
  simpa [byteKind] using this
set_option maxHeartbeats 1000000 in
set_option maxRecDepth 100000 in
theorem same_bodies (ao : Option Addr) (n c : Nat) (es : List ByteE) (ao2 : Option Addr) (n2 c2 : Nat) (es2 : List ByteE) (w : World) (h : RSrc byteKind w ao n c es) (h2 : RSrc byteKind w ao2 n2 c2 es2) (hn : n ≤ 1099511627776) :
    Calls Tryd.prog 13 #[.slice ao n c, .slice ao2 n2 c2] w fun e w' => e = .returned (.bool (decide (es.map ByteE.bytes = es2.map ByteE.bytes))) ∧ Below w.heap.size w w' := by
  have HR := keep h
  have HR2 := keep h2
  have HLEN := keep h.len
  have HLEN2 := keep h2.len
  clear h h2
  by_cases hnn : n = n2
  · subst hnn
    go_enter Tryd.func13, Tryd.ntmps13
    go_wp2_with fail
    go_loopw [5] (fun i wr => ∃ (t : Nat), t ≤ n ∧ i = .int .i64 (t : Int) ∧ Hid ((es.map ByteE.bytes).take t = (es2.map ByteE.bytes).take t) ∧ Hid (Below w.heap.size w wr)) (fun i _ => n - (intOf i).toNat)
    case atStart => exact ⟨0, Nat.zero_le _, rfl, by exact rfl, Below.refl _ _⟩
    case round =>
      obtain ⟨t, ht, rfl, hd, hb⟩ := hrel
      rcases Nat.lt_or_ge t n with hlt | hge
      · obtain ⟨f, hf⟩ : ∃ f, es[t]? = some f := ⟨es[t]'(by have := HLEN.out; omega), List.getElem?_eq_getElem _⟩
        obtain ⟨g, hg⟩ : ∃ f, es2[t]? = some f := ⟨es2[t]'(by have := HLEN2.out; omega), List.getElem?_eq_getElem _⟩
        have HRr := HR.out.below byteKind_ok hb.out
        have HRr2 := HR2.out.below byteKind_ok hb.out
        obtain ⟨b, off, rfl, hbl, hat⟩ := row_at HRr (by omega)
        have hc0 := hat t f hf
        obtain ⟨b2, off2, rfl, hbl2, hat2⟩ := row_at HRr2 (by omega)
        have hd0 := hat2 t g hg
        have j0 : (0 : Int) ≤ (t : Int) := by omega
        have j1 : (t : Int) < (n : Int) := by omega
        have s1' := fun m => conv_src ((HRr.held f (List.mem_of_getElem? hf) : Src wr f.ptr f.bytes.length f.cap f.bytes).below (below_drewN (Below.refl wr.heap.size wr) m))
        have s2' := fun m => conv_src ((HRr2.held g (List.mem_of_getElem? hg) : Src wr g.ptr g.bytes.length g.cap g.bytes).below (below_drewN (Below.refl wr.heap.size wr) m))
        have HF := keep hf
        have HG := keep hg
        obtain ⟨p, k, fbs⟩ := f
        obtain ⟨p2, k2, gbs⟩ := g
        simp only at hc0 hd0 s1' s2'
        clear hat hat2 hf hg HRr HRr2
        by_cases e3 : fbs = gbs
        · have x3 : (fbs == gbs) = true := by simpa using e3
          have hnx : Hid ((es.map ByteE.bytes).take (t + 1) = (es2.map ByteE.bytes).take (t + 1)) := by
            show _ = _
            rw [List.take_add_one, List.take_add_one, hd.out, List.getElem?_map, List.getElem?_map, HF.out, HG.out]
            simp [e3]
          clear e3
          go_wp2_with fail
          go_quiet (fail)
          have hb2 : Hid (Below w.heap.size w (wr.drewN nq)) := below_drewN hb.out _
          go_wp2
          go_roundw
          case rel => exact ⟨t + 1, by omega, by first | rfl | go_num, hnx, hb2⟩
          case measure => simp [intOf]; omega
        · have x3 : (fbs == gbs) = false := by simpa using e3
          have hno : Hid (¬ es.map ByteE.bytes = es2.map ByteE.bytes) := fun e => by
            have h1 := congrArg (fun l : List (List UInt8) => l[t]?) e
            simp only [List.getElem?_map, HF.out, HG.out, Option.map_some, Option.some.injEq] at h1
            exact e3 h1
          clear e3
          go_wp2_with fail
          go_quiet (fail)
          have hb2 : Hid (Below w.heap.size w (wr.drewN nq)) := below_drewN hb.out _
          go_wp2
          go_ret
          exact ⟨by rw [decide_eq_false hno.out]; rfl, hb2.out⟩
      · obtain rfl : t = n := by omega
        have hall : Hid (es.map ByteE.bytes = es2.map ByteE.bytes) := by
          have := hd.out
          rwa [List.take_of_length_le (by rw [List.length_map]; have := HLEN.out; omega), List.take_of_length_le (by rw [List.length_map]; have := HLEN2.out; omega)] at this
        go_wp2
        go_ret
        exact ⟨by rw [decide_eq_true hall.out]; rfl, hb.out⟩
  · have e0 : ((n : Int) == (n2 : Int)) = false := by rw [beq_eq_false_iff_ne]; omega
    have hno : Hid (¬ es.map ByteE.bytes = es2.map ByteE.bytes) := fun e => by
      have h1 := congrArg List.length e
      have h2 := HLEN.out
      have h3 := HLEN2.out
      rw [List.length_map, List.length_map] at h1
      omega
    go_enter Tryd.func13, Tryd.ntmps13
    go_wp2
    go_ret
    exact ⟨by rw [decide_eq_false hno.out]; rfl, Below.refl _ _⟩
end Go.Proofs.YtohnfogdalnilaaDoor
