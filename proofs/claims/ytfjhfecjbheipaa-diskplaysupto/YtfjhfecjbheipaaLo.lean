/- The walk of disk's lose. -/
import Derived.Test.YtfjhfecjbheipaaNn
import Derived.Test.YtfjhfecjbheipaaE0
namespace Go.Proofs.Ytfjhfecjbheipaa
open Go.RowKit
open Dk (File Disk)

theorem map_look1 {w : World} {m : Nat} {l : List Named} (h : MapIs Try.prog 9 w m l) (n : List UInt8) (hn : n.length ≤ maxLen) :
    (Instr.lookup 60 (.map (some m)) (.string ⟨n.toArray⟩) false).run Try.prog w = .ok ((seek l n).getD nofile) w :=
  h.look Try.underlying9 Try.underlying60 (zero_file w) n hn
theorem look1_there {w : World} {m : Nat} {l : List Named} {fs : List File} (h : MapIs Try.prog 9 w m l) (hr : Rel w Nobody l fs) {n : List UInt8} (hn : n.length ≤ maxLen) {f : File} (hx : Dk.look fs n = some f) :
    ∃ ao c, (Instr.lookup 60 (.map (some m)) (.string ⟨n.toArray⟩) false).run Try.prog w = .ok (.agg #[.int .i64 (f.safe : Int), .slice ao f.bytes.length c]) w ∧
      w.ownsRow 0 5 1 (.slice ao f.bytes.length c) f.bytes.length (bv f.bytes) ∧ Src w ao f.bytes.length c f.bytes ∧ (n, filev f.safe (.slice ao f.bytes.length c)) ∈ l := by
  have h0 := map_look1 h n hn
  obtain ⟨v, h1, h2, h3⟩ := hr.some hx
  obtain ⟨sv, rfl, ho⟩ := h3 (fun e => e)
  obtain ⟨ao, c, rfl, hs, _⟩ := Src.of_own ho
  rw [h1] at h0
  exact ⟨ao, c, h0, ho, hs, h2⟩

theorem own_take {w : World} {ao : Option Addr} {n c : Nat} {l : List UInt8} (h : w.ownsRow 0 5 1 (.slice ao n c) n (bv l)) {k : Nat} (hk : k ≤ n) : w.ownsRow 0 5 1 (.slice ao k c) k (bv (l.take k)) := by
  have hl : l.length = n := by have := h.1; rw [bv_length] at this; omega
  refine ⟨by rw [bv_length, List.length_take]; omega, ?_⟩
  rcases h.2 with ⟨h0, rfl⟩ | ⟨g, cap, cur, hv, hb, hg, hc, hm, hs, ht⟩
  · cases h0
    exact .inl ⟨by rw [Nat.le_zero.1 hk], Nat.le_zero.1 hk⟩
  · cases hv
    refine .inr ⟨g, c, cur, rfl, hb, hg, by omega, hm, hs, ?_⟩
    have e : bv (l.take k) = (bv l).take k := by simp [bv, List.map_take]
    rw [e, ← ht, List.take_take]
    congr 1
    omega
theorem own_form {w : World} {ao : Option Addr} {n c : Nat} {xs : List Value} (h : w.ownsRow 0 5 1 (.slice ao n c) n xs) : (ao = none ∧ n = 0 ∧ c = 0) ∨ (∃ g, ao = some ⟨g, 0, none⟩ ∧ n ≤ c ∧ c ≤ maxLen) := by
  rcases h.2 with ⟨h0, h1⟩ | ⟨g, cap, cur, hv, _, _, hc, hm, _⟩
  · cases h0
    exact .inl ⟨rfl, h1, rfl⟩
  · cases hv
    exact .inr ⟨g, rfl, hc, hm⟩
theorem wrap_eq (x : Int) : IntKind.i64.wrap x = wrap64 x := by simp only [wrap64, IntKind.wrap_i64]
theorem keep_eq (sf u p k : Nat) (hk : k = sf + p % (u + 1)) (hb : sf + u ≤ 1099511627776) : wrap64 ((sf : Int) + wrap64 ((p : Int) % ((sf : Int) + (u : Int) - (sf : Int) + 1))) = (k : Int) := by
  have h1 := Nat.mod_lt p (show 0 < u + 1 by omega)
  have e1 : (sf : Int) + (u : Int) - (sf : Int) + 1 = ((u + 1 : Nat) : Int) := by omega
  have e2 : (p : Int) % ((u + 1 : Nat) : Int) = ((p % (u + 1) : Nat) : Int) := by rw [Int.natCast_emod]
  rw [e1, e2]
  generalize hq : p % (u + 1) = q at *
  have w1 : wrap64 ((q : Nat) : Int) = (q : Int) := (wrap_eq _).symm.trans (wrap_small _ (by omega) (by omega))
  rw [w1, (wrap_eq _).symm, wrap_small _ (by omega) (by omega), hk]
  omega

set_option maxHeartbeats 1000000 in
set_option maxRecDepth 100000 in
theorem lose_mem (S : Nat → Prop) (b m : Nat) (l : List Named) (left : Int) (d : Disk) (n nm : List UInt8) (sf : Nat) (fb : List UInt8) (p : Nat) (w : World) (h : MemAt S w b m l left d) (hn : n.length ≤ maxLen) (hx : Dk.look d.files n = some ⟨nm, sf, fb⟩) (hp : p < 18446744073709551616) :
    Calls Try.prog 47 #[.pointer (some ⟨b, 0, none⟩), .string ⟨n.toArray⟩, .int .u64 (p : Int)] w fun e w' => e = .returned (.tuple #[]) ∧ (∃ l', MemAt S w' b m l' left { d with files := Dk.put d.files (Dk.kept ⟨nm, sf, fb⟩ p) }) ∧ Kept (Go.Proofs.Ytfjhfecjbheipaa.mine S b) w w' := by
  have HM := keep h
  have HX := keep hx
  have c0 := h.box.c0
  have hsf : sf ≤ fb.length := h.good.safes _ (Dk.look_some hx).1
  obtain ⟨ao, c, hl, ho, hs, hin⟩ := look1_there h.map h.rel hn hx
  have HL := keep hl
  have HO := keep ho
  have HIN := keep hin
  have hfbl : fb.length ≤ 1099511627776 := by
    have h1 := used_mem (Dk.look_some hx).1
    have h2 := h.good.room
    have h3 := h.capb
    simp only [Dk.cost] at h1
    omega
  obtain ⟨u, hu⟩ : ∃ u, fb.length = sf + u := ⟨fb.length - sf, by omega⟩
  rw [hu] at HL HO HIN hfbl
  have HU := keep hu
  have u0 : ¬ ((u : Int) + 1 = 0) := by omega
  obtain ⟨k, hk⟩ : ∃ k, k = sf + p % (u + 1) := ⟨_, rfl⟩
  have hku : k ≤ sf + u := by have := Nat.mod_lt p (show 0 < u + 1 by omega); omega
  have HK := keep hk
  have hke := keep (keep_eq sf u p k hk hfbl)
  obtain ⟨F, hF, F0, F1⟩ : ∃ F : Int, (d.cap : Int) - (Dk.used d.files : Int) = F ∧ 0 ≤ F ∧ F ≤ 1099511627776 := ⟨_, rfl, by have := h.good.room; omega, by have := h.capb; omega⟩
  have HF := keep hF
  have hform := keep (own_form HO.out)
  obtain ⟨wA, hwA⟩ : ∃ wA, w.alloc (.cells #[.int .i64 (sf : Int), .slice ao (sf + u) c] 58) = wA := ⟨_, rfl⟩
  have bA : Below w.heap.size w wA := by rw [← hwA]; exact (Below.refl _ _).alloc (Nat.le_refl _) _
  have kf1 : wA.cell? ⟨w.heap.size, 1, none⟩ = some (.slice ao (sf + u) c) := by rw [← hwA]; exact cell_of_row _ _ _ _ _ _ (heap_alloc_new w _)
  have kf0 : wA.cell? ⟨w.heap.size, 0, none⟩ = some (.int .i64 (sf : Int)) := by rw [← hwA]; exact cell_of_row _ _ _ _ _ _ (heap_alloc_new w _)
  have cA0 := (h.below bA).box.c0
  have HBA := keep bA
  have hfew := keep h.few
  clear h hx hl ho hs hin hu hsf hF hk bA
  go_enter Try.func47, Try.ntmps47
  go_wp2_with (first | (at_lookup; refine wpList_look rfl _ _ _ _ rfl _ _ _ rfl rfl HL.out ?_) | fail)
  clear hwA
  go_region
  rw [hke.out]
  have hs0 : (0 : Int) ≤ (k : Int) := by omega
  have hs1 : (k : Int) ≤ (c : Int) := by
    rcases hform.out with ⟨_, h1, h2⟩ | ⟨g, _, h1, _⟩
    · omega
    · omega
  obtain ⟨wB, hwB⟩ : ∃ wB, wA.drew = wB := ⟨_, rfl⟩
  have bB : Below wA.heap.size wA wB := by rw [← hwB]; exact (Below.refl _ _).drew
  have kB1 := below_cell bB kf1
  have kB0 := below_cell bB kf0
  have cB0 := below_cell bB cA0
  have mB := HM.out.below (HBA.out.trans (bB.mono HBA.out.size))
  have HMB := keep mB
  have HBB := keep (HBA.out.trans (bB.mono HBA.out.size))
  obtain ⟨w6, hrun6, hmap6, hg6⟩ := (mB.map.same (w' := wB.drew) rfl).store Try.underlying9 Try.underlying60 n hn hfew.out.1 (.agg #[.int .i64 (k : Int), .slice ao k c])
  have HM6 := keep hmap6
  have hg8 : Hid (wB.grownBy w6 (some m)) := ⟨hg6.os, hg6.tape, hg6.output, hg6.size, hg6.block⟩
  rw [hwB]
  clear hwB bB kf1 kf0 cA0 mB hmap6 hg6
  have hbm : ¬ b = m := fun e => HMB.out.out (by rw [e]; exact HMB.out.foot.mine)
  have HB6 := keep (HMB.out.box.same (w' := w6) (hg8.out.block b HMB.out.box.lt (fun e => hbm (Option.some.inj e))))
  have hne5 : some w.heap.size ≠ some m := fun e => by
    have h1 := HM.out.lt m HM.out.foot.mine
    have := Option.some.inj e
    omega
  have k16 := hg8.out.cell kB1 hne5
  have c16 := HB6.out.c1
  rw [HF.out] at c16
  have f6 := HB6.out.warm
  have fin : Hid (∀ w7, w7.heap = (w6.setCell ⟨b, 1, none⟩ (.int .i64 (F + ((sf : Int) + (u : Int) - (k : Int))))).heap → w7.os = w6.os → w7.tape = w6.tape → w7.output = w6.output → (∃ l', MemAt S w7 b m l' left { d with files := Dk.put d.files (Dk.kept ⟨nm, sf, fb⟩ p) }) ∧ Kept (Go.Proofs.Ytfjhfecjbheipaa.mine S b) w w7) := by
    intro w7 e1 e2 e3 e4
    have hM := HMB.out
    have hkf : Dk.kept ⟨nm, sf, fb⟩ p = ⟨nm, k, fb.take k⟩ := by
      have : fb.length - sf + 1 = u + 1 := by have := HU.out; omega
      simp only [Dk.kept, this, ← HK.out]
    rw [hkf]
    have hlen : (fb.take k).length = k := by rw [List.length_take]; have := HU.out; omega
    have hnm : nm = n := (Dk.look_some HX.out).2
    have hput := Dk.used_put_old (f := ⟨nm, k, fb.take k⟩) hM.good.rising (by rw [show (⟨nm, k, fb.take k⟩ : File).name = n from hnm]; exact HX.out)
    have hlf := HU.out
    simp only [Dk.cost, hlen] at hput
    have hgood : Dk.Good { d with files := Dk.put d.files ⟨nm, k, fb.take k⟩ } := by
      refine ⟨Dk.put_rising _ hM.good.rising, fun f hf => ?_, fun f hf => ?_, ?_, hM.good.lit⟩
      · rcases Dk.put_mem hf with rfl | ⟨h1, _⟩
        · exact hM.good.names ⟨nm, sf, fb⟩ (Dk.look_some HX.out).1
        · exact hM.good.names f h1
      · rcases Dk.put_mem hf with rfl | ⟨h1, _⟩
        · exact Nat.le_of_eq hlen.symm
        · exact hM.good.safes f h1
      · have := hM.good.room
        show Dk.used (Dk.put d.files ⟨nm, k, fb.take k⟩) ≤ d.cap
        omega
    have hblk : ∀ g, g ≠ b → w7.heap[g]? = w6.heap[g]? := fun g hg => by rw [e1]; exact Below.heap_setCell w6 ⟨b, 1, none⟩ _ g hg
    have hsz : w7.heap.size = w6.heap.size := by rw [e1]; simp only [World.setCell, Array.size_modify]
    have hto : ∀ g, S g → g ≠ m → w7.heap[g]? = wB.heap[g]? := fun g hs hm => (hblk g (fun e => hM.out (by rw [← e]; exact hs))).trans (hg8.out.block g (hM.lt g hs) (fun e => hm (Option.some.inj e)))
    have ent := HM.out.foot.arrs _ HIN.out
    have hOB : wB.ownsRow 0 5 1 (.slice ao (sf + u) c) (sf + u) (bv fb) := own_block HO.out (fun g hg => HBB.out.block g (HM.out.lt g (ent g hg).1))
    have hlaid := hM.laid (S' := S) (n := n) (v := filev (k : Int) (.slice ao k c)) (f := ⟨nm, k, fb.take k⟩) (fs := Dk.put d.files ⟨nm, k, fb.take k⟩) (w' := w7) (HM6.out.same (hblk m (fun e => hbm e.symm)))
      ⟨_, rfl, by
        show w7.ownsRow 0 5 1 (.slice ao k c) (fb.take k).length (bv (fb.take k))
        rw [hlen]
        exact own_take (own_block hOB (fun g hg => hto g (ent g hg).1 (ent g hg).2)) hku⟩ hnm rfl
      (fun x hx hne g hg => hto g (hM.foot.arrs x hx g hg).1 (hM.foot.arrs x hx g hg).2)
      (by
        have e5 : (d.cap : Int) - (Dk.used (Dk.put d.files ⟨nm, k, fb.take k⟩) : Int) = F + ((sf : Int) + (u : Int) - (k : Int)) := by
          have := HF.out
          omega
        rw [e5]
        show w7.heap[b]? = _
        rw [e1]
        have hb6 := HB6.out
        rw [HF.out] at hb6
        exact hb6.set1 _)
      (fun g hg0 => by
        have hg : arr (n, filev (sf : Int) (.slice ao (sf + u) c)).2 = some g := (by cases ao <;> rfl : (Value.slice ao (sf + u) c).ownBlock = (Value.slice ao k c).ownBlock).trans hg0
        exact ⟨(ent g hg).1, (ent g hg).2, fun y hy hne e => HM.out.foot.apart _ HIN.out y hy (fun e => hne e.symm) g hg e⟩) (fun _ e => e) hM.out
      (fun g hg => by rw [hsz]; exact Nat.lt_of_lt_of_le (hM.lt g hg) hg8.out.size) hgood
    refine ⟨⟨_, hlaid⟩, ?_⟩
    have h1 : Kept (Go.Proofs.Ytfjhfecjbheipaa.mine S b) w w6 := (Kept.of_below HBB.out).grown hg8.out (fun k e => .inl (.inl (by cases e; exact hM.foot.mine)))
    exact ⟨e2.trans h1.os, e3.trans h1.tape, e4.trans h1.output, by rw [hsz]; exact h1.size, fun g hg hu => (hblk g (fun e => hu (.inr e))).trans (h1.block g hg hu)⟩
  rcases hform.out with ⟨rfl, q1, rfl⟩ | ⟨g, rfl, q1, q2⟩
  · obtain rfl : sf = 0 := by omega
    obtain rfl : u = 0 := by omega
    obtain rfl : k = 0 := by omega
    rw [show ((0 : Nat) : Int) = 0 from rfl] at hrun6 fin
    go_wp2_with fail
    go_region
    all_goals go_wp2_with fail
    all_goals go_region
    all_goals go_end0
    all_goals exact ⟨rfl, fin.out _ (by rw [show F + (0 + 0 - 0) = F from by omega]; rfl) rfl rfl rfl⟩
  · go_wp2_with fail
    go_region
    all_goals go_wp2_with fail
    all_goals go_region
    all_goals go_end0
    all_goals exact ⟨rfl, fin.out _ rfl rfl rfl rfl⟩
end Go.Proofs.Ytfjhfecjbheipaa
