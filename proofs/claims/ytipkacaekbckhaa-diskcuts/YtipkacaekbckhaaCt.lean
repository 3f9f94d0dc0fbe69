/- The walk of DiskCuts. -/
import Derived.Test.YtipkacaekbckhaaPy
import Derived.Test.YtipkacaekbckhaaRd4
namespace Go.Proofs.Ytipkacaekbckhaa
open Go.RowKit
open Dk (File Disk)

theorem and_le (x : Int) (m : Nat) (hm : m < 9223372036854775808) : ∃ k : Nat, bits BinOp.and IntKind.i64 x (m : Int) = (k : Int) ∧ k ≤ m := by
  have e : bits BinOp.and IntKind.i64 x (m : Int) = IntKind.i64.wrap ((BitVec.ofInt 64 x &&& BitVec.ofInt 64 (m : Int)).toNat : Int) := rfl
  have hb : (BitVec.ofInt 64 (m : Int)).toNat = m := by
    rw [BitVec.toNat_ofInt]
    have : ((m : Int) % ((2 ^ 64 : Nat) : Int)) = (m : Int) := Int.emod_eq_of_lt (by omega) (by omega)
    rw [this]; rfl
  have hle : (BitVec.ofInt 64 x &&& BitVec.ofInt 64 (m : Int)).toNat ≤ m := by
    rw [BitVec.toNat_and, hb]
    exact Nat.and_le_right
  refine ⟨(BitVec.ofInt 64 x &&& BitVec.ofInt 64 (m : Int)).toNat, ?_, hle⟩
  rw [e, IntKind.wrap_i64]
  omega
theorem infoO : (Try.prog.info? 38).map (fun i => (i.zero, i.size, i.bytes)) = some (some (.agg #[.int .i64 0, .int .i64 0, .string ⟨#[]⟩, .string ⟨#[]⟩, .slice none 0 0, .slice none 0 0]), 6, 96) := by kernel_rfl
/-- Raw writes and nothing else. -/
def plainOp (o : OpE) : Bool := decide (tag o.what < 5)
theorem opOn_plain {o : OpE} (h : plainOp o = true) : ∃ k a b t, ∀ d, opOn (tag o.what) o d = (((Dk.raw d k a b t).1, [], false), (Dk.raw d k a b t).2) := by
  have h5 : tag o.what < 5 := of_decide_eq_true h
  obtain ⟨j, hj, _⟩ := and_le o.what 7 (by decide)
  have hj' : tag o.what = (j : Int) := hj
  rw [hj'] at h5 ⊢
  have : j = 0 ∨ j = 1 ∨ j = 2 ∨ j = 3 ∨ j = 4 := by omega
  rcases this with rfl | rfl | rfl | rfl | rfl
  · exact ⟨0, o.a, [], o.data, fun d => rfl⟩
  · exact ⟨0, o.a, [], o.data, fun d => rfl⟩
  · exact ⟨1, o.a, [], [], fun d => rfl⟩
  · exact ⟨2, o.a, o.b, [], fun d => rfl⟩
  · exact ⟨3, o.a, [], [], fun d => rfl⟩
/-- Behind the cut: the document's disk stays as it is. -/
structure Behind (w0 : World) (S : Nat → Prop) (w : World) (b q : Nat) (d r : Disk) : Prop where
  own : Own w0 S w b d
  ref : Steady (Go.Proofs.Ytipkacaekbckhaa.mine S b) w fun w => Ref (fun _ => False) w q r
theorem Behind.next {w0 : World} {S : Nat → Prop} {w w' : World} {b q : Nat} {d r : Disk} (h : Behind w0 S w b q d r) (hb : Below w.heap.size w w') : Behind w0 S w' b q d r := ⟨h.own.next hb, h.ref.below hb⟩
theorem Both.behind {X : World → Prop} {w0 : World} {S : Nat → Prop} {w : World} {b q : Nat} {d r : Disk} (h : Both X w0 S w b q d r) : Behind w0 S w b q d r := ⟨h.own, h.ref.steady⟩
theorem Behind.copied {w0 : World} {S : Nat → Prop} {w w' : World} {b q q' : Nat} {d r : Disk} (h : Behind w0 S w b q d r) (hr : Ref (Go.Proofs.Ytipkacaekbckhaa.mine S b) w' q' r) (hq : w.heap.size ≤ q') (hb : Below w.heap.size w w') : Both (fun w => Ref (fun _ => False) w q r) w0 S w' b q' d r :=
  ⟨h.own.next hb, hr, Nat.le_trans h.own.bel.size hq, fun w2 hk => h.ref w2 ((Kept.of_below hb).trans' hk (fun g hg e => by
    rcases e with e | e
    · exact e
    · omega))⟩
theorem Both.gone {w0 : World} {S : Nat → Prop} {w : World} {b q q' : Nat} {d r r' : Disk} (h : Both (fun w => Ref (fun _ => False) w q r) w0 S w b q' d r') : Behind w0 S w b q d r := ⟨h.own, fun w2 hk => h.side w2 (hk.wide (fun _ _ e => .inl e))⟩
set_option maxHeartbeats 4000000 in
set_option maxRecDepth 100000 in
theorem diskCuts_walk (ao : Option Addr) (m c : Nat) (es : List OpE) (ops : Int) (W0 : World) (hs : RSrc opKind W0 ao m c es) (hc : c ≤ maxLen) (hf : ∀ e ∈ es, Fine e) (_hops : -9223372036854775808 ≤ ops ∧ ops < 9223372036854775808) :
    Calls Try.prog 6 #[.slice ao m c, .int .i64 ops] W0 fun e w' => e = .returned (.bool true) ∧ Below W0.heap.size W0 w' := by
  have ha := keep (awake_any W0)
  have HS := keep hs
  have HF := keep hf
  have hmc := hs.cap
  have hml : m ≤ 9223372036854775807 := by unfold maxLen at hc; omega
  clear hs hf hc
  go_enter Try.func6, Try.ntmps6
  go_wp2_with fail
  refine ha.out.mono ?_
  rintro e w1 ⟨rfl, hb1⟩
  have B1 := keep hb1
  clear hb1 ha
  rcases Nat.lt_or_ge 60 m with hbig | hbig
  · have h60 : (60 : Int) < (m : Int) := by omega
    go_wp2
    go_ret
    exact ⟨rfl, B1.out⟩
  have h60 : ¬ (60 : Int) < (m : Int) := by omega
  obtain ⟨i0, hi, hz0, hz1, hz2⟩ := info_parts3 infoO
  go_wp2_with fail
  go_loopw [6, 7] (fun v i wr => ∃ (t : Nat) (es' : List OpE), t ≤ m ∧ i = .int .i64 (t : Int) ∧ Hid (wr.ownsRow W0.heap.size 38 6 v es'.length (rv opKind es') ∧ es' = (es.take t).filter plainOp ∧ Below W0.heap.size W0 wr)) (fun _ i _ => m - (intOf i).toNat)
  case atStart => exact ⟨0, [], Nat.zero_le _, rfl, World.ownsRow_nil _ _ _ _, by simp, B1.out⟩
  case round =>
    obtain ⟨t, es', ht, rfl, hg⟩ := hrel
    have t0 : (0 : Int) ≤ (t : Int) := by omega
    rcases Nat.lt_or_ge t m with hlt | hge
    · have t1 : (t : Int) < (m : Int) := by omega
      obtain ⟨o, ho⟩ : ∃ o, es[t]? = some o := ⟨es[t]'(by rw [HS.out.len]; exact hlt), List.getElem?_eq_getElem _⟩
      have hst := keep (show es.take (t + 1) = es.take t ++ [o] by rw [List.take_add_one, ho]; rfl)
      have hR := HS.out.below opKind_ok hg.out.2.2
      obtain ⟨bb, off, rfl, hbl, hat⟩ := hR.form opKind_ok (by omega)
      obtain ⟨wh, z, a, b2, da0, dc0, da, pp, pc, ps⟩ := o
      have c0 : wr.cell? ⟨bb, off + t * 6, none⟩ = some (.int .i64 wh) := hat t _ ho 0 _ rfl
      have c1 : wr.cell? ⟨bb, off + t * 6 + 1, none⟩ = some (.int .i64 z) := hat t _ ho 1 _ rfl
      have c2 : wr.cell? ⟨bb, off + t * 6 + 2, none⟩ = some (.string ⟨a.toArray⟩) := hat t _ ho 2 _ rfl
      have c3 : wr.cell? ⟨bb, off + t * 6 + 3, none⟩ = some (.string ⟨b2.toArray⟩) := hat t _ ho 3 _ rfl
      have c4 : wr.cell? ⟨bb, off + t * 6 + 4, none⟩ = some (.slice da0 da.length dc0) := hat t _ ho 4 _ rfl
      have c5 : wr.cell? ⟨bb, off + t * 6 + 5, none⟩ = some (.slice pp ps.length pc) := hat t _ ho 5 _ rfl
      clear hat ho hR
      by_cases hp : bits BinOp.and IntKind.i64 wh 7 < 5
      · have b4 := keep (((Below.refl wr.heap.size wr).alloc (Nat.le_refl _) (.cells #[.int .i64 wh, .int .i64 z, .string ⟨a.toArray⟩, .string ⟨b2.toArray⟩, .slice da0 da.length dc0, .slice pp ps.length pc] 38)).alloc (by simp) (.cells #[.int .i64 wh, .int .i64 z, .string ⟨a.toArray⟩, .string ⟨b2.toArray⟩, .slice da0 da.length dc0, .slice pp ps.length pc] 38))
        have ow := keep (own_block (w' := (wr.alloc (.cells #[.int .i64 wh, .int .i64 z, .string ⟨a.toArray⟩, .string ⟨b2.toArray⟩, .slice da0 da.length dc0, .slice pp ps.length pc] 38)).alloc (.cells #[.int .i64 wh, .int .i64 z, .string ⟨a.toArray⟩, .string ⟨b2.toArray⟩, .slice da0 da.length dc0, .slice pp ps.length pc] 38)) hg.out.1 (fun g hgg => b4.out.block g (own_size hg.out.1 hgg)))
        have sz := keep (show W0.heap.size ≤ ((wr.alloc (.cells #[.int .i64 wh, .int .i64 z, .string ⟨a.toArray⟩, .string ⟨b2.toArray⟩, .slice da0 da.length dc0, .slice pp ps.length pc] 38)).alloc (.cells #[.int .i64 wh, .int .i64 z, .string ⟨a.toArray⟩, .string ⟨b2.toArray⟩, .slice da0 da.length dc0, .slice pp ps.length pc] 38)).heap.size from Nat.le_trans hg.out.2.2.size b4.out.size)
        have rc : Hid (∀ j u, (opKind.vals (⟨wh, z, a, b2, da0, dc0, da, pp, pc, ps⟩ : OpE))[j]? = some u → ((wr.alloc (.cells #[.int .i64 wh, .int .i64 z, .string ⟨a.toArray⟩, .string ⟨b2.toArray⟩, .slice da0 da.length dc0, .slice pp ps.length pc] 38)).alloc (.cells #[.int .i64 wh, .int .i64 z, .string ⟨a.toArray⟩, .string ⟨b2.toArray⟩, .slice da0 da.length dc0, .slice pp ps.length pc] 38)).cell? ((⟨wr.heap.size + 1, 0, none⟩ : Addr).add j) = some u) := fun j u hu => by
          have := rec_cells (k := opKind) (wr.alloc (.cells #[.int .i64 wh, .int .i64 z, .string ⟨a.toArray⟩, .string ⟨b2.toArray⟩, .slice da0 da.length dc0, .slice pp ps.length pc] 38)) 38 (⟨wh, z, a, b2, da0, dc0, da, pp, pc, ps⟩ : OpE) j u hu
          rwa [World.size_alloc] at this
        have hel : es'.length ≤ 60 := by
          have h1 := congrArg List.length hg.out.2.1
          have h2 := List.length_filter_le plainOp (es.take t)
          rw [List.length_take] at h2
          omega
        go_wp2_with (first
          | (at_builtin; go_loud (refine wpList_append_rec opKind_ok rfl _ _ 23 38 rfl W0.heap.size i0 _ 96 Try.underlying23 hi hz0 hz1 hz2 rfl u6 es'.length es' rfl ow.out _ 1 (⟨wh, z, a, b2, da0, dc0, da, pp, pc, ps⟩ : OpE) rfl rc.out (by unfold maxLen; omega) (by omega) sz.out ?_); intro v7 w7 ho7 hg7; have HO7 := keep ho7; have HB7 := keep ((hg.out.2.2.trans (b4.out.mono hg.out.2.2.size)).grown hg7 sz.out (fun j hj => (hg.out.1.lt j hj).1)); clear ho7 hg7))
        go_roundw
        case rel => exact ⟨t + 1, es' ++ [(⟨wh, z, a, b2, da0, dc0, da, pp, pc, ps⟩ : OpE)], by omega, by first | rfl | go_num, by rw [List.length_append]; exact HO7.out, by rw [hst.out, List.filter_append, ← hg.out.2.1, List.filter_cons_of_pos (show plainOp (⟨wh, z, a, b2, da0, dc0, da, pp, pc, ps⟩ : OpE) = true from decide_eq_true hp)]; simp, HB7.out⟩
        case measure => simp [intOf]; omega
      · have b4 := keep ((Below.refl wr.heap.size wr).alloc (Nat.le_refl _) (.cells #[.int .i64 wh, .int .i64 z, .string ⟨a.toArray⟩, .string ⟨b2.toArray⟩, .slice da0 da.length dc0, .slice pp ps.length pc] 38))
        have ow := keep (own_block (w' := wr.alloc (.cells #[.int .i64 wh, .int .i64 z, .string ⟨a.toArray⟩, .string ⟨b2.toArray⟩, .slice da0 da.length dc0, .slice pp ps.length pc] 38)) hg.out.1 (fun g hgg => b4.out.block g (own_size hg.out.1 hgg)))
        have hnp : plainOp (⟨wh, z, a, b2, da0, dc0, da, pp, pc, ps⟩ : OpE) = false := decide_eq_false hp
        go_wp2
        go_roundw
        case rel => exact ⟨t + 1, es', by omega, by first | rfl | go_num, ow.out, by rw [hst.out, List.filter_append, ← hg.out.2.1, List.filter_cons_of_neg (by rw [hnp]; simp)]; simp, hg.out.2.2.trans (b4.out.mono hg.out.2.2.size)⟩
        case measure => simp [intOf]; omega
    · have t1 : ¬ (t : Int) < (m : Int) := by omega
      obtain rfl : t = m := by omega
      have hall := hg.out
      rw [List.take_of_length_le (by have := HS.out.len; omega)] at hall
      clear hg
      obtain ⟨Wp, rfl⟩ : ∃ Wp, Wp = wr := ⟨_, rfl⟩
      obtain ⟨ho, hes, hbw⟩ := hall
      have hel : es'.length ≤ 60 := by
        have h1 := congrArg List.length hes
        have h2 := List.length_filter_le plainOp es
        have h3 := HS.out.len
        omega
      obtain ⟨ap, cp, rfl, hRp, hcp⟩ := RSrc.own opKind_ok ho (fun e he => by
        rw [hes] at he
        exact opKind_ok.below (HS.out.held e ((List.mem_filter.1 he).1)) hbw)
      have RP := keep hRp
      have FP : Hid (∀ e ∈ es', Fine e ∧ plainOp e = true) := fun e he => by
        rw [hes] at he
        exact ⟨HF.out e ((List.mem_filter.1 he).1), (List.mem_filter.1 he).2⟩
      have BW := keep hbw
      obtain ⟨n', hn'⟩ : ∃ n', es'.length = n' := ⟨_, rfl⟩
      rw [hn'] at hel RP ⊢
      obtain ⟨k, hk, hk31⟩ := and_le ops 31 (by decide)
      have hk2 : bits BinOp.and IntKind.i64 ops 31 = (k : Int) := hk
      have hkz : (k : Int) < 9223372036854775808 := by omega
      clear ho hes hbw hRp hk HS HF B1 hn'
      have hn := keep (new_mem 1048575 Wp (by omega))
      rw [show ((1048575 : Nat) : Int) = 1048575 from rfl] at hn
      go_wp2_with fail
      refine hn.out.mono ?_
      rintro e w2 ⟨b, S, rfl, hm, hS, hb, hbel⟩
      have H1 : Hid (Own Wp S w2 b ⟨1048575, [], 0, none, false⟩) := ⟨hm, hS, hb, hbel⟩
      clear hm hS hbel hn hb
      go_wp2_with fail
      have hr := rnew_ref (Go.Proofs.Ytipkacaekbckhaa.mine S b) 1048575 w2 (by omega) (fun g hg => (H1.out.mines g hg).2)
      rw [show ((1048575 : Nat) : Int) = 1048575 from rfl] at hr
      refine hr.mono ?_
      rintro e w3 ⟨q, rfl, hq, hlq, hbq⟩
      have B3 : Hid (Both (fun _ => True) Wp S w3 b q ⟨1048575, [], 0, none, false⟩ ⟨1048575, [], 0, none, false⟩) := ⟨H1.out.next hbq, hq, Nat.le_trans H1.out.bel.size hlq, fun _ _ => trivial⟩
      clear hq hlq hbq H1 hr
      have CM := cut_mem S b ⟨1048575, [], 0, none, false⟩ (k : Int) w3 B3.out.own.mem hkz
      go_wp2_with fail
      refine CM.mono ?_
      intro e w4 hp
      obtain ⟨rfl, hB4⟩ := B3.out.left hp
      have A0 : Hid (Dk.Alike k (Dk.cut ⟨1048575, [], 0, none, false⟩ (k : Int)).2 ⟨1048575, [], 0, none, false⟩ ∧ (Dk.cut ⟨1048575, [], 0, none, false⟩ (k : Int)).1 = 0) := by
        have hk9 : ¬ (k : Int) < 0 := by omega
        show _ ∧ _
        simp [Dk.Alike, Dk.cut, hk9]
      have B4 := keep hB4
      rw [A0.out.2]
      clear hp hB4 CM B3
      generalize more S w3 w4 = S4 at B4
      generalize (Dk.cut ⟨1048575, [], 0, none, false⟩ (k : Int)).2 = d4 at B4 A0
      go_wp2_with fail
      go_loopw [13] (fun i wr => ∃ (t : Nat) (S : Nat → Prop) (d r : Disk), t ≤ n' ∧ i = .int .i64 (t : Int) ∧ Hid (Both (fun _ => True) Wp S wr b q d r ∧ Dk.Alike k d r ∨ Behind Wp S wr b q d r ∧ Dk.Stopped k d r ∧ r.done = k)) (fun i _ => n' - (intOf i).toNat)
      case atStart => exact ⟨0, S4, _, _, Nat.zero_le _, rfl, .inl ⟨B4.out, A0.out.1⟩⟩
      case round =>
        obtain ⟨t, S5, d, r, ht, rfl, hB⟩ := hrel
        clear B4 A0
        have t0 : (0 : Int) ≤ (t : Int) := by omega
        have BH : Hid (Behind Wp S5 wr b q d r) := by
          rcases hB.out with h | h
          · exact h.1.behind
          · exact h.1
        have hrc : wr.cell? ⟨q, 2, none⟩ = some (.int .i64 (r.done : Int)) := by
          obtain ⟨_, _, _, _, h⟩ := BH.out.ref.here
          exact h.box.c2
        have hrd : r.done ≤ k := by
          rcases hB.out with h | h
          · exact h.2.2.2.2.2.2.2.1
          · exact Nat.le_of_eq h.2.2
        rcases Nat.lt_or_ge t n' with hlt | hge
        · have t1 : (t : Int) < (n' : Int) := by omega
          obtain ⟨o, ho⟩ : ∃ o, es'[t]? = some o := ⟨es'[t]'(by rw [RP.out.len]; exact hlt), List.getElem?_eq_getElem _⟩
          have hfo := keep (FP.out o (List.mem_of_getElem? ho))
          have hho := keep (RP.out.held o (List.mem_of_getElem? ho))
          obtain ⟨bb, off, rfl, _, hat⟩ := RP.out.form opKind_ok (by omega)
          obtain ⟨pk, pa, pb, pt, hpl⟩ := opOn_plain hfo.out.2
          by_cases hd : r.done < k
          · have hd1 : (r.done : Int) < (k : Int) := by omega
            obtain ⟨hBo, hAl⟩ : Both (fun _ => True) Wp S5 wr b q d r ∧ Dk.Alike k d r := by
              rcases hB.out with h | h
              · exact h
              · have := h.2.2; omega
            have hst := keep (step_any (X := fun _ => True) Wp S5 wr b q d r o hBo hho.out hfo.out.1 (by have := hAl.2.2.1; omega) (by omega))
            have hnx := keep (Dk.alike_step pk pa pb pt hAl hd)
            have bel := hBo.own.bel
            rw [hpl, hpl] at hst
            obtain ⟨wh, z, a, b2, da0, dc0, da, pp, pc, ps⟩ := o
            have c0 : wr.cell? ⟨bb, off + t * 6, none⟩ = some (.int .i64 wh) := below_cell bel (hat t _ ho 0 _ rfl)
            have c1 : wr.cell? ⟨bb, off + t * 6 + 1, none⟩ = some (.int .i64 z) := below_cell bel (hat t _ ho 1 _ rfl)
            have c2 : wr.cell? ⟨bb, off + t * 6 + 2, none⟩ = some (.string ⟨a.toArray⟩) := below_cell bel (hat t _ ho 2 _ rfl)
            have c3 : wr.cell? ⟨bb, off + t * 6 + 3, none⟩ = some (.string ⟨b2.toArray⟩) := below_cell bel (hat t _ ho 3 _ rfl)
            have c4 : wr.cell? ⟨bb, off + t * 6 + 4, none⟩ = some (.slice da0 da.length dc0) := below_cell bel (hat t _ ho 4 _ rfl)
            have c5 : wr.cell? ⟨bb, off + t * 6 + 5, none⟩ = some (.slice pp ps.length pc) := below_cell bel (hat t _ ho 5 _ rfl)
            clear hat ho hBo hAl bel hB BH hd hrd
            go_wp2_with fail
            refine hst.out.mono ?_
            rintro e w5 ⟨S6, x, rfl, hx, hB6⟩
            obtain rfl : x = true := hx.2 (by simp [hnx.out.1])
            have B6 := keep hB6
            clear hst hx hB6
            go_wp2
            go_roundw
            case rel => exact ⟨t + 1, S6, _, _, by omega, by first | rfl | go_num, .inl ⟨B6.out, hnx.out.2⟩⟩
            case measure => simp [intOf]; omega
          · have hd1 : ¬ (r.done : Int) < (k : Int) := by omega
            have hSt : Hid (Dk.Stopped k d r) := by
              rcases hB.out with h | h
              · exact Dk.stopped_of h.2 hd
              · exact h.2.1
            have hnx := keep (Dk.stopped_step pk pa pb pt hSt.out)
            have HD : Hid (r.done = k) := Nat.le_antisymm hrd (Nat.le_of_not_lt hd)
            have OPS := keep (ops_mem S5 b d wr BH.out.own.mem)
            have hdk : d.done ≤ 31 := by have := hSt.out.2.1; omega
            have ho2 := keep ho
            have HAT := keep hat
            clear hB hd hrd hSt hat ho
            go_wp2_with fail
            refine OPS.out.mono ?_
            rintro e w5 ⟨rfl, hb5⟩
            have BH5 := keep (BH.out.next hb5)
            clear hb5 OPS BH hrc
            have CP : Hid (∀ w', Below w5.heap.size w5 w' → Calls Try.prog 34 #[.pointer (some ⟨q, 0, none⟩)] w' fun e w'' => ∃ q', e = .returned (.pointer (some ⟨q', 0, none⟩)) ∧ Hid (Both (fun w => Ref (fun _ => False) w q r) Wp S5 w'' b q' d r)) := fun w' hb' => by
              have h1 := BH5.out.next hb'
              refine (rcopy_any _ (Go.Proofs.Ytipkacaekbckhaa.mine S5 b) q r w' h1.ref.here (fun g hg => (h1.own.mines g hg).2)).mono ?_
              rintro e w'' ⟨q', rfl, hr, hq, hb⟩
              exact ⟨q', rfl, h1.copied hr hq hb⟩
            have ST : Hid (∀ q' w', Both (fun w => Ref (fun _ => False) w q r) Wp S5 w' b q' d r → Calls Try.prog 13 #[.pointer (some ⟨b, 0, none⟩), .pointer (some ⟨q', 0, none⟩), .agg (opKind.vals o).toArray] w' fun e w'' => ∃ S' x, e = .returned (.bool x) ∧ Hid (Behind Wp S' w'' b q (Dk.raw d pk pa pb pt).2 r)) := fun q' w' hb' => by
              refine (step_any Wp S5 w' b q' d r o hb' hho.out hfo.out.1 (by omega) ?_).mono ?_
              · rw [HD.out]; omega
              rintro e w'' ⟨S', x, rfl, _, h⟩
              rw [hpl] at h
              exact ⟨S', x, rfl, h.gone⟩
            obtain ⟨wh, z, a, b2, da0, dc0, da, pp, pc, ps⟩ := o
            have KS : Hid (∀ w', Below Wp.heap.size Wp w' → w'.cell? ⟨bb, off + t * 6, none⟩ = some (.int .i64 wh) ∧ w'.cell? ⟨bb, off + t * 6 + 1, none⟩ = some (.int .i64 z) ∧ w'.cell? ⟨bb, off + t * 6 + 2, none⟩ = some (.string ⟨a.toArray⟩) ∧ w'.cell? ⟨bb, off + t * 6 + 3, none⟩ = some (.string ⟨b2.toArray⟩) ∧ w'.cell? ⟨bb, off + t * 6 + 4, none⟩ = some (.slice da0 da.length dc0) ∧ w'.cell? ⟨bb, off + t * 6 + 5, none⟩ = some (.slice pp ps.length pc)) := fun w' bel => ⟨below_cell bel (HAT.out t _ ho2.out 0 _ rfl), below_cell bel (HAT.out t _ ho2.out 1 _ rfl), below_cell bel (HAT.out t _ ho2.out 2 _ rfl), below_cell bel (HAT.out t _ ho2.out 3 _ rfl), below_cell bel (HAT.out t _ ho2.out 4 _ rfl), below_cell bel (HAT.out t _ ho2.out 5 _ rfl)⟩
            simp only [opKind] at ST
            have bl5 := keep BH5.out.own.bel
            go_wp2_with fail
            go_region_held3 (fun w' => w'.cell? ⟨bb, off + t * 6, none⟩ = some (.int .i64 wh) ∧ w'.cell? ⟨bb, off + t * 6 + 1, none⟩ = some (.int .i64 z) ∧ w'.cell? ⟨bb, off + t * 6 + 2, none⟩ = some (.string ⟨a.toArray⟩) ∧ w'.cell? ⟨bb, off + t * 6 + 3, none⟩ = some (.string ⟨b2.toArray⟩) ∧ w'.cell? ⟨bb, off + t * 6 + 4, none⟩ = some (.slice da0 da.length dc0) ∧ w'.cell? ⟨bb, off + t * 6 + 5, none⟩ = some (.slice pp ps.length pc))
              (first | exact KS.out _ bl5.out | exact KS.out _ bl5.out.drew | exact KS.out _ bl6.out | exact KS.out _ bl6.out.drew | exact KS.out _ bl7.out | exact KS.out _ bl7.out.drew)
              (first
                | (go_at_call 34; refine (CP.out _ (by first | exact Below.refl _ _ | exact (Below.refl _ _).drew | exact below_drewN _ _ _)).mono ?_; rintro e w6 ⟨q', rfl, hB6⟩; have B6 := hB6; have bl6 := keep hB6.out.own.bel; clear hB6)
                | (go_at_call 13; refine (ST.out _ _ (by first | exact B6.out | exact B6.out.next (Below.refl _ _).drew | exact B6.out.next (below_drewN _ _ _))).mono ?_; rintro e w7 ⟨S7, x, rfl, hB7⟩; have B7 := hB7; have bl7 := keep hB7.out.own.bel; clear hB7))
            go_wp2_with fail
            refine (ops_mem S7 b _ _ B7.out.own.mem).mono ?_
            rintro e w8 ⟨rfl, hb8⟩
            have BH8 := keep (B7.out.next hb8)
            rw [hnx.out.1]
            clear hb8 B7 B6 BH5
            go_wp2
            go_roundw
            case rel => exact ⟨t + 1, S7, _, _, by omega, by first | rfl | go_num, .inr ⟨BH8.out, hnx.out.2, HD.out⟩⟩
            case measure => simp [intOf]; omega
        · have t1 : ¬ (t : Int) < (n' : Int) := by omega
          have FIN : Hid (d.done ≤ k ∧ d.files = r.files) := by
            rcases hB.out with h | h
            · exact ⟨by have := h.2.2.2.1; omega, h.2.2.1⟩
            · exact ⟨Nat.le_of_eq h.2.1.2.1, h.2.1.1⟩
          have hdk : (d.done : Int) ≤ (k : Int) := by have := FIN.out.1; omega
          have HG : Hid (Dk.Good d ∧ d.cap ≤ 1099511627776) := by obtain ⟨_, _, _, h⟩ := BH.out.own.mem; exact ⟨h.good, h.capb⟩
          obtain ⟨N, hN⟩ : ∃ N, d.files.length = N := ⟨_, rfl⟩
          have HN := keep hN
          have hNs : N ≤ 1099511627776 := by
            have h1 := used_ge d.files
            have h2 := HG.out.1.room
            have h3 := HG.out.2
            omega
          have OPS := keep (ops_mem S5 b d wr BH.out.own.mem)
          clear hB hrd hrc hN
          go_wp2_with fail
          refine OPS.out.mono ?_
          rintro e w5 ⟨rfl, hb5⟩
          have BH5 := keep (BH.out.next hb5)
          clear hb5 OPS BH
          go_wp2_with fail
          refine (dump_mem S5 b d w5 BH5.out.own.mem).mono ?_
          rintro e w6 ⟨a6, n6, f6, rfl, _, hst, hpl, hb⟩
          rw [HN.out] at hst ⊢
          have R6 : Hid (Rows4 (Old w5.heap.size) w6 a6 N n6 f6 d.files) := ⟨hst, hpl, HN.out.symm⟩
          have BH6 := keep (BH5.out.next hb)
          have s6 := keep hb.size
          clear hst hpl hb BH5
          go_wp2_with fail
          refine (theirs_any _ a6 N n6 f6 _ _ R6.out (by omega) (fun g hg => Nat.lt_of_lt_of_le hg s6.out)).mono ?_
          rintro e w7 ⟨a7, n7, f7, rfl, hr, hb⟩
          have R7 := keep hr
          have BH7 := keep (BH6.out.next hb)
          clear hr hb R6 BH6 s6
          go_wp2_with fail
          refine (rdump_any _ q r w7 BH7.out.ref.here).mono ?_
          rintro e w8 ⟨a8, n8, f8, rfl, _, hr, hb⟩
          rw [← FIN.out.2, HN.out] at hr ⊢
          have R8 := keep hr
          have RB := keep (R7.out.below hb)
          have B8 := keep (BH7.out.next hb).own.bel
          clear hr hb R7 BH7
          go_wp2_with fail
          refine (same_files a7 N n7 f7 d.files _ a8 N n8 f8 d.files _ w8 RB.out R8.out (by omega)).mono ?_
          rintro e w9 ⟨⟨x, rfl, hxx⟩, hb⟩
          obtain rfl : x = true := hxx.2 rfl
          have B9 := keep (B8.out.trans (hb.mono B8.out.size))
          clear hb hxx
          go_wp2
          go_ret
          exact ⟨rfl, BW.out.trans (B9.out.mono BW.out.size)⟩
end Go.Proofs.Ytipkacaekbckhaa
