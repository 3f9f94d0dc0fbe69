/- A slice of bytes among the arguments, opened: what it holds, its length within the form's reach or the bound; no walk. -/
/- Files and operations as records: how they lie, and how they are opened among the arguments, of any program; no walk. -/
/- The walk of disk's lose. -/
/- Files' rows and the plain files that they stand for; a crash, file by file; no walk. -/
/- The walk of disk's Crash. -/
/- A slice of numbers among the arguments, opened; no walk. -/
import Derived.Test.YthnebhddakfadaaGreatDoorJoinMe
import Derived.OpenShut
import Derived.ShutString
import Derived.SizedLaws
import Derived.Carry
import Derived.JoinedCond
import Derived.Deep.Strs
import Derived.Test.YthnebhddakfadaaGreatDoorJoinNn
import Derived.Test.YthnebhddakfadaaGreatDoorJoinOz
namespace Go.Proofs.YthnebhddakfadaaGreatDoor
open Go.ChangeShapes Go.WideShapes Go.ChangeAt Go.RowKit

theorem laidOut : laidOutB Tryz.prog = true := by kernel_rfl
theorem cells5 : Tryz.prog.cellsOf 5 = 1 := by kernel_rfl
theorem bytes5 : Tryz.prog.bytesOf 5 = 1 := by kernel_rfl
def bl (zs : List Int) : List UInt8 := zs.map fun n => UInt8.ofNat n.toNat
theorem bl_at (zs : List Int) (i : Nat) (hi : i < zs.length) (hw : ∀ n ∈ zs, (Lit.int .u8 n).wf = true) : ((fn (bl zs) i).toNat : Int) = zs.getD i 0 := by
  have hz : zs.getD i 0 = zs[i] := by simp [List.getD, hi]
  have hb := hw zs[i] (List.getElem_mem hi)
  have hx : 0 ≤ zs[i] ∧ zs[i] ≤ 255 := by simpa [Lit.wf, IntKind.min, IntKind.max, IntKind.signed, IntKind.bits] using hb
  have e : fn (bl zs) i = UInt8.ofNat (zs[i]).toNat := by simp [fn, bl, List.getD, hi]
  rw [e, hz, UInt8.toNat_ofNat']
  omega
theorem i64_lt {n : Int} (h : (Lit.int .i64 n).wf = true) : -9223372036854775808 ≤ n ∧ n < 9223372036854775808 := by
  have h2 : -9223372036854775808 ≤ n ∧ n ≤ 9223372036854775807 := by simpa [Lit.wf, IntKind.min, IntKind.max, IntKind.signed, IntKind.bits] using h
  omega
theorem bulk_one {H : Type} (d : DataW H) : 1 ≤ Rows.uptoBulk d := by
  cases d with
  | lit l => cases l <;> simp [Rows.uptoBulk]
  | nil => simp [Rows.uptoBulk]
  | ptr d => simp [Rows.uptoBulk]
  | slice elems spare => simp [Rows.uptoBulk]
  | agg parts => simp [Rows.uptoBulk]
  | iface t d => simp [Rows.uptoBulk]
  | map entries => simp [Rows.uptoBulk]
  | held h => simp [Rows.uptoBulk]
theorem bulk_length {H : Type} (l : List (DataW H)) : l.length ≤ Rows.uptoBulkAll l := by
  induction l with
  | nil => simp [Rows.uptoBulkAll]
  | cons x r ih => have := bulk_one x; simp only [Rows.uptoBulkAll, List.length_cons]; omega
end Go.Proofs.YthnebhddakfadaaGreatDoor
namespace Go.Proofs.YthnebhddakfadaaGreatDoor
open Go.ChangeShapes Go.WideShapes Go.ChangeAt Go.RowKit Go.Deep

/-- Numbers as records of one cell. -/
def intKind : Kind Int where
  size := 1
  vals z := [.int .i64 z]
  held _ _ := True
theorem intKind_ok : intKind.Ok :=
  ⟨by decide, fun _ => rfl, fun e u hu => by
    simp only [intKind, List.mem_cons, List.not_mem_nil, or_false] at hu
    subst hu
    rfl, fun _ _ => trivial⟩
/-- A slice of numbers. -/
theorem open_ints_of {H : Type} {enc : TypeId × Value → H} {P : Program} {W : World} {n : Nat} {tN tI : TypeId} {v : Value} {x : DataW H × List MemPlace} (hN : P.underlying tN = some (.slice tI)) (hI : P.underlying tI = some (.int .i64)) (cI : P.cellsOf tI = 1)
    (h : DataW.trod enc P W 0 (fun _ => true) true n tN [v] = some x) : ∃ ao m c l, v = .slice ao m c ∧ RSrc intKind W ao m c l ∧ c ≤ maxLen ∧ (∀ z ∈ l, -9223372036854775808 ≤ z ∧ z < 9223372036854775808) ∧ m ≤ Rows.uptoBulk x.1 := by
  obtain ⟨ao, m, c, es, hv, hs, hc, hd⟩ := open_recs intKind_ok (Q := fun z d => d = .lit (.int .i64 z) ∧ (Lit.int .i64 z).wf = true) hN cI (fun m cs y hy => by
    obtain ⟨z, h1, h2, h3⟩ := DataW.trod_int hI hy
    exact ⟨z, h1, trivial, by rw [h2], h3⟩) h
  refine ⟨ao, m, c, es, hv, hs, hc, fun z hz => ?_, ?_⟩
  · obtain ⟨i, hi⟩ := List.getElem?_of_mem hz
    rcases hd with ⟨h0, _⟩ | ⟨ds, sp, _, hl, _, hq⟩
    · have := (List.getElem?_eq_some_iff.1 hi).1
      rw [hs.len, h0] at this
      omega
    · have hlt := (List.getElem?_eq_some_iff.1 hi).1
      rw [hs.len, ← hl] at hlt
      exact i64_lt (hq i z _ hi (List.getElem?_eq_getElem hlt)).2
  · rcases hd with ⟨h0, _⟩ | ⟨ds, sp, hx, hl, _, _⟩
    · omega
    · rw [hx]
      have := bulk_length ds
      simp only [Rows.uptoBulk]
      omega
end Go.Proofs.YthnebhddakfadaaGreatDoor
namespace Go.Proofs.YthnebhddakfadaaGreatDoor
open Go.RowKit
open Dk (File Disk)

theorem map_look1 {w : World} {m : Nat} {l : List Named} (h : MapIs Tryz.prog 9 w m l) (n : List UInt8) (hn : n.length ≤ maxLen) :
    (Instr.lookup 85 (.map (some m)) (.string ⟨n.toArray⟩) false).run Tryz.prog w = .ok ((seek l n).getD nofile) w :=
  h.look Tryz.underlying9 Tryz.underlying85 (zero_file w) n hn
theorem look1_there {w : World} {m : Nat} {l : List Named} {fs : List File} (h : MapIs Tryz.prog 9 w m l) (hr : Rel w Nobody l fs) {n : List UInt8} (hn : n.length ≤ maxLen) {f : File} (hx : Dk.look fs n = some f) :
    ∃ ao c, (Instr.lookup 85 (.map (some m)) (.string ⟨n.toArray⟩) false).run Tryz.prog w = .ok (.agg #[.int .i64 (f.safe : Int), .slice ao f.bytes.length c]) w ∧
      w.ownsRow 0 5 1 (.slice ao f.bytes.length c) f.bytes.length (bv f.bytes) ∧ Src w ao f.bytes.length c f.bytes ∧ (n, filev f.safe (.slice ao f.bytes.length c)) ∈ l := by
  have h0 := map_look1 h n hn
  obtain ⟨v, h1, h2, h3⟩ := hr.some hx
  obtain ⟨sv, rfl, ho⟩ := h3 (fun e => e)
  obtain ⟨ao, c, rfl, hs, _⟩ := Src.of_own ho
  rw [h1] at h0
  exact ⟨ao, c, h0, ho, hs, h2⟩

theorem own_take {w : World} {ao : Option Addr} {n c : Nat} {l : List UInt8} (h : w.ownsRow 0 5 1 (.slice ao n c) n (bv l)) {k : Nat} (hk : k ≤ n) : w.ownsRow 0 5 1 (.slice ao k c) k (bv (l.take k)) := by
  have hl : l.length = n := by have := h.1; rw [bv_length] at this; omega
  refine ⟨by rw [bv_length, List.length_take]; omega, ?_⟩
  rcases h.2 with ⟨h0, rfl⟩ | ⟨g, cap, cur, hv, hb, hg, hc, hm, hs, ht⟩
  · cases h0
    exact .inl ⟨by rw [Nat.le_zero.1 hk], Nat.le_zero.1 hk⟩
  · cases hv
    refine .inr ⟨g, c, cur, rfl, hb, hg, by omega, hm, hs, ?_⟩
    have e : bv (l.take k) = (bv l).take k := by simp [bv, List.map_take]
    rw [e, ← ht, List.take_take]
    congr 1
    omega
theorem own_form {w : World} {ao : Option Addr} {n c : Nat} {xs : List Value} (h : w.ownsRow 0 5 1 (.slice ao n c) n xs) : (ao = none ∧ n = 0 ∧ c = 0) ∨ (∃ g, ao = some ⟨g, 0, none⟩ ∧ n ≤ c ∧ c ≤ maxLen) := by
  rcases h.2 with ⟨h0, h1⟩ | ⟨g, cap, cur, hv, _, _, hc, hm, _⟩
  · cases h0
    exact .inl ⟨rfl, h1, rfl⟩
  · cases hv
    exact .inr ⟨g, rfl, hc, hm⟩
theorem wrap_eq (x : Int) : IntKind.i64.wrap x = wrap64 x := by simp only [wrap64, IntKind.wrap_i64]
theorem keep_eq (sf u p k : Nat) (hk : k = sf + p % (u + 1)) (hb : sf + u ≤ 1099511627776) : wrap64 ((sf : Int) + wrap64 ((p : Int) % ((sf : Int) + (u : Int) - (sf : Int) + 1))) = (k : Int) := by
  have h1 := Nat.mod_lt p (show 0 < u + 1 by omega)
  have e1 : (sf : Int) + (u : Int) - (sf : Int) + 1 = ((u + 1 : Nat) : Int) := by omega
  have e2 : (p : Int) % ((u + 1 : Nat) : Int) = ((p % (u + 1) : Nat) : Int) := by rw [Int.natCast_emod]
  rw [e1, e2]
  generalize hq : p % (u + 1) = q at *
  have w1 : wrap64 ((q : Nat) : Int) = (q : Int) := (wrap_eq _).symm.trans (wrap_small _ (by omega) (by omega))
  rw [w1, (wrap_eq _).symm, wrap_small _ (by omega) (by omega), hk]
  omega

set_option maxHeartbeats 1000000 in
set_option maxRecDepth 100000 in
theorem lose_mem (S : Nat → Prop) (b m : Nat) (l : List Named) (left : Int) (d : Disk) (n nm : List UInt8) (sf : Nat) (fb : List UInt8) (p : Nat) (w : World) (h : MemAt S w b m l left d) (hn : n.length ≤ maxLen) (hx : Dk.look d.files n = some ⟨nm, sf, fb⟩) (hp : p < 18446744073709551616) :
    Calls Tryz.prog 65 #[.pointer (some ⟨b, 0, none⟩), .string ⟨n.toArray⟩, .int .u64 (p : Int)] w fun e w' => e = .returned (.tuple #[]) ∧ (∃ l', MemAt S w' b m l' left { d with files := Dk.put d.files (Dk.kept ⟨nm, sf, fb⟩ p) }) ∧ Kept (Go.Proofs.YthnebhddakfadaaGreatDoor.mine S b) w w' := by
  have HM := keep h
  have HX := keep hx
  have c0 := h.box.c0
  have hsf : sf ≤ fb.length := h.good.safes _ (Dk.look_some hx).1
  obtain ⟨ao, c, hl, ho, hs, hin⟩ := look1_there h.map h.rel hn hx
  have HL := keep hl
  have HO := keep ho
  have HIN := keep hin
  have hfbl : fb.length ≤ 1099511627776 := by
    have h1 := used_mem (Dk.look_some hx).1
    have h2 := h.good.room
    have h3 := h.capb
    simp only [Dk.cost] at h1
    omega
  obtain ⟨u, hu⟩ : ∃ u, fb.length = sf + u := ⟨fb.length - sf, by omega⟩
  rw [hu] at HL HO HIN hfbl
  have HU := keep hu
  have u0 : ¬ ((u : Int) + 1 = 0) := by omega
  obtain ⟨k, hk⟩ : ∃ k, k = sf + p % (u + 1) := ⟨_, rfl⟩
  have hku : k ≤ sf + u := by have := Nat.mod_lt p (show 0 < u + 1 by omega); omega
  have HK := keep hk
  have hke := keep (keep_eq sf u p k hk hfbl)
  obtain ⟨F, hF, F0, F1⟩ : ∃ F : Int, (d.cap : Int) - (Dk.used d.files : Int) = F ∧ 0 ≤ F ∧ F ≤ 1099511627776 := ⟨_, rfl, by have := h.good.room; omega, by have := h.capb; omega⟩
  have HF := keep hF
  have hform := keep (own_form HO.out)
  obtain ⟨wA, hwA⟩ : ∃ wA, w.alloc (.cells #[.int .i64 (sf : Int), .slice ao (sf + u) c] 95) = wA := ⟨_, rfl⟩
  have bA : Below w.heap.size w wA := by rw [← hwA]; exact (Below.refl _ _).alloc (Nat.le_refl _) _
  have kf1 : wA.cell? ⟨w.heap.size, 1, none⟩ = some (.slice ao (sf + u) c) := by rw [← hwA]; exact cell_of_row _ _ _ _ _ _ (heap_alloc_new w _)
  have kf0 : wA.cell? ⟨w.heap.size, 0, none⟩ = some (.int .i64 (sf : Int)) := by rw [← hwA]; exact cell_of_row _ _ _ _ _ _ (heap_alloc_new w _)
  have cA0 := (h.below bA).box.c0
  have HBA := keep bA
  have hfew := keep h.few
  clear h hx hl ho hs hin hu hsf hF hk bA
  go_enter Tryz.func65, Tryz.ntmps65
  go_wp2_with (first | (at_lookup; refine wpList_look rfl _ _ _ _ rfl _ _ _ rfl rfl HL.out ?_) | fail)
  clear hwA
  go_region
  rw [hke.out]
  have hs0 : (0 : Int) ≤ (k : Int) := by omega
  have hs1 : (k : Int) ≤ (c : Int) := by
    rcases hform.out with ⟨_, h1, h2⟩ | ⟨g, _, h1, _⟩
    · omega
    · omega
  obtain ⟨wB, hwB⟩ : ∃ wB, wA.drew = wB := ⟨_, rfl⟩
  have bB : Below wA.heap.size wA wB := by rw [← hwB]; exact (Below.refl _ _).drew
  have kB1 := below_cell bB kf1
  have kB0 := below_cell bB kf0
  have cB0 := below_cell bB cA0
  have mB := HM.out.below (HBA.out.trans (bB.mono HBA.out.size))
  have HMB := keep mB
  have HBB := keep (HBA.out.trans (bB.mono HBA.out.size))
  obtain ⟨w6, hrun6, hmap6, hg6⟩ := (mB.map.same (w' := wB.drew) rfl).store Tryz.underlying9 Tryz.underlying85 n hn hfew.out.1 (.agg #[.int .i64 (k : Int), .slice ao k c])
  have HM6 := keep hmap6
  have hg8 : Hid (wB.grownBy w6 (some m)) := ⟨hg6.os, hg6.tape, hg6.output, hg6.size, hg6.block⟩
  rw [hwB]
  clear hwB bB kf1 kf0 cA0 mB hmap6 hg6
  have hbm : ¬ b = m := fun e => HMB.out.out (by rw [e]; exact HMB.out.foot.mine)
  have HB6 := keep (HMB.out.box.same (w' := w6) (hg8.out.block b HMB.out.box.lt (fun e => hbm (Option.some.inj e))))
  have hne5 : some w.heap.size ≠ some m := fun e => by
    have h1 := HM.out.lt m HM.out.foot.mine
    have := Option.some.inj e
    omega
  have k16 := hg8.out.cell kB1 hne5
  have c16 := HB6.out.c1
  rw [HF.out] at c16
  have f6 := HB6.out.warm
  have fin : Hid (∀ w7, w7.heap = (w6.setCell ⟨b, 1, none⟩ (.int .i64 (F + ((sf : Int) + (u : Int) - (k : Int))))).heap → w7.os = w6.os → w7.tape = w6.tape → w7.output = w6.output → (∃ l', MemAt S w7 b m l' left { d with files := Dk.put d.files (Dk.kept ⟨nm, sf, fb⟩ p) }) ∧ Kept (Go.Proofs.YthnebhddakfadaaGreatDoor.mine S b) w w7) := by
    intro w7 e1 e2 e3 e4
    have hM := HMB.out
    have hkf : Dk.kept ⟨nm, sf, fb⟩ p = ⟨nm, k, fb.take k⟩ := by
      have : fb.length - sf + 1 = u + 1 := by have := HU.out; omega
      simp only [Dk.kept, this, ← HK.out]
    rw [hkf]
    have hlen : (fb.take k).length = k := by rw [List.length_take]; have := HU.out; omega
    have hnm : nm = n := (Dk.look_some HX.out).2
    have hput := Dk.used_put_old (f := ⟨nm, k, fb.take k⟩) hM.good.rising (by rw [show (⟨nm, k, fb.take k⟩ : File).name = n from hnm]; exact HX.out)
    have hlf := HU.out
    simp only [Dk.cost, hlen] at hput
    have hgood : Dk.Good { d with files := Dk.put d.files ⟨nm, k, fb.take k⟩ } := by
      refine ⟨Dk.put_rising _ hM.good.rising, fun f hf => ?_, fun f hf => ?_, ?_, hM.good.lit⟩
      · rcases Dk.put_mem hf with rfl | ⟨h1, _⟩
        · exact hM.good.names ⟨nm, sf, fb⟩ (Dk.look_some HX.out).1
        · exact hM.good.names f h1
      · rcases Dk.put_mem hf with rfl | ⟨h1, _⟩
        · exact Nat.le_of_eq hlen.symm
        · exact hM.good.safes f h1
      · have := hM.good.room
        show Dk.used (Dk.put d.files ⟨nm, k, fb.take k⟩) ≤ d.cap
        omega
    have hblk : ∀ g, g ≠ b → w7.heap[g]? = w6.heap[g]? := fun g hg => by rw [e1]; exact Below.heap_setCell w6 ⟨b, 1, none⟩ _ g hg
    have hsz : w7.heap.size = w6.heap.size := by rw [e1]; simp only [World.setCell, Array.size_modify]
    have hto : ∀ g, S g → g ≠ m → w7.heap[g]? = wB.heap[g]? := fun g hs hm => (hblk g (fun e => hM.out (by rw [← e]; exact hs))).trans (hg8.out.block g (hM.lt g hs) (fun e => hm (Option.some.inj e)))
    have ent := HM.out.foot.arrs _ HIN.out
    have hOB : wB.ownsRow 0 5 1 (.slice ao (sf + u) c) (sf + u) (bv fb) := own_block HO.out (fun g hg => HBB.out.block g (HM.out.lt g (ent g hg).1))
    have hlaid := hM.laid (S' := S) (n := n) (v := filev (k : Int) (.slice ao k c)) (f := ⟨nm, k, fb.take k⟩) (fs := Dk.put d.files ⟨nm, k, fb.take k⟩) (w' := w7) (HM6.out.same (hblk m (fun e => hbm e.symm)))
      ⟨_, rfl, by
        show w7.ownsRow 0 5 1 (.slice ao k c) (fb.take k).length (bv (fb.take k))
        rw [hlen]
        exact own_take (own_block hOB (fun g hg => hto g (ent g hg).1 (ent g hg).2)) hku⟩ hnm rfl
      (fun x hx hne g hg => hto g (hM.foot.arrs x hx g hg).1 (hM.foot.arrs x hx g hg).2)
      (by
        have e5 : (d.cap : Int) - (Dk.used (Dk.put d.files ⟨nm, k, fb.take k⟩) : Int) = F + ((sf : Int) + (u : Int) - (k : Int)) := by
          have := HF.out
          omega
        rw [e5]
        show w7.heap[b]? = _
        rw [e1]
        have hb6 := HB6.out
        rw [HF.out] at hb6
        exact hb6.set1 _)
      (fun g hg0 => by
        have hg : arr (n, filev (sf : Int) (.slice ao (sf + u) c)).2 = some g := (by cases ao <;> rfl : (Value.slice ao (sf + u) c).ownBlock = (Value.slice ao k c).ownBlock).trans hg0
        exact ⟨(ent g hg).1, (ent g hg).2, fun y hy hne e => HM.out.foot.apart _ HIN.out y hy (fun e => hne e.symm) g hg e⟩) (fun _ e => e) hM.out
      (fun g hg => by rw [hsz]; exact Nat.lt_of_lt_of_le (hM.lt g hg) hg8.out.size) hgood
    refine ⟨⟨_, hlaid⟩, ?_⟩
    have h1 : Kept (Go.Proofs.YthnebhddakfadaaGreatDoor.mine S b) w w6 := (Kept.of_below HBB.out).grown hg8.out (fun k e => .inl (.inl (by cases e; exact hM.foot.mine)))
    exact ⟨e2.trans h1.os, e3.trans h1.tape, e4.trans h1.output, by rw [hsz]; exact h1.size, fun g hg hu => (hblk g (fun e => hu (.inr e))).trans (h1.block g hg hu)⟩
  rcases hform.out with ⟨rfl, q1, rfl⟩ | ⟨g, rfl, q1, q2⟩
  · obtain rfl : sf = 0 := by omega
    obtain rfl : u = 0 := by omega
    obtain rfl : k = 0 := by omega
    rw [show ((0 : Nat) : Int) = 0 from rfl] at hrun6 fin
    go_wp2_with fail
    go_region
    all_goals go_wp2_with fail
    all_goals go_region
    all_goals go_end0
    all_goals exact ⟨rfl, fin.out _ (by rw [show F + (0 + 0 - 0) = F from by omega]; rfl) rfl rfl rfl⟩
  · go_wp2_with fail
    go_region
    all_goals go_wp2_with fail
    all_goals go_region
    all_goals go_end0
    all_goals exact ⟨rfl, fin.out _ rfl rfl rfl rfl⟩
end Go.Proofs.YthnebhddakfadaaGreatDoor
namespace Go.Proofs.YthnebhddakfadaaGreatDoor
open Go.RowKit
open Dk (File Disk)

/-- What is not older than B. -/
def Old (B : Nat) (g : Nat) : Prop := g < B
theorem RSrc.next {α : Type} {k : Kind α} {U : Nat → Prop} {w w' : World} {ao : Option Addr} {n c : Nat} {es : List α} (h : Steady U w fun w => RSrc k w ao n c es) (hk : Kept U w w') : RSrc k w' ao n c es := h w' hk
/-- As far as a crash has come. -/
def part (fs : List File) (ps : List Nat) (t : Nat) : List File := (Dk.keptAll fs ps).take t ++ fs.drop t
theorem part_zero (fs : List File) (ps : List Nat) : part fs ps 0 = fs := by simp [part]
theorem part_all (fs : List File) (ps : List Nat) : part fs ps fs.length = Dk.keptAll fs ps := by
  unfold part
  rw [List.take_of_length_le (by rw [Dk.keptAll_length]; exact Nat.le_refl _), List.drop_eq_nil_of_le (Nat.le_refl _), List.append_nil]
theorem put_at {A B : List File} {f f' : File} (hr : Dk.Rising (A ++ f :: B)) (hn : f'.name = f.name) : Dk.put (A ++ f :: B) f' = A ++ f' :: B := by
  induction A with
  | nil =>
    simp only [List.nil_append, Dk.put]
    rw [hn, less_irrefl]
    simp
  | cons a t ih =>
    have h1 := hr.1 f (by simp)
    simp only [List.cons_append, Dk.put]
    rw [hn, h1, if_pos rfl, ih hr.2]
theorem part_split {fs : List File} {ps : List Nat} {t : Nat} {f : File} (hf : fs[t]? = some f) : part fs ps t = (Dk.keptAll fs ps).take t ++ f :: fs.drop (t + 1) ∧ part fs ps (t + 1) = (Dk.keptAll fs ps).take t ++ Dk.kept f (Dk.pick ps t) :: fs.drop (t + 1) := by
  have hlt := (List.getElem?_eq_some_iff.1 hf).1
  constructor
  · unfold part
    rw [List.drop_eq_getElem_cons hlt, (List.getElem?_eq_some_iff.1 hf).2]
  · unfold part
    rw [List.take_add_one, Dk.keptAll_at, hf]
    simp
theorem part_look {fs : List File} {ps : List Nat} {t : Nat} {f : File} (hf : fs[t]? = some f) (hr : Dk.Rising (part fs ps t)) : Dk.look (part fs ps t) f.name = some f := Dk.look_mem hr (by rw [(part_split hf).1]; simp)
theorem part_next {fs : List File} {ps : List Nat} {t : Nat} {f : File} (hf : fs[t]? = some f) (hr : Dk.Rising (part fs ps t)) : Dk.put (part fs ps t) (Dk.kept f (Dk.pick ps t)) = part fs ps (t + 1) := by
  rw [(part_split hf).2]
  have h1 := (part_split (ps := ps) hf).1
  rw [h1] at hr ⊢
  exact put_at hr rfl
/-- A pick as a uint. -/
def up (z : Int) : Nat := (z % 18446744073709551616).toNat
theorem up_lt (z : Int) : up z < 18446744073709551616 := by
  unfold up
  have h1 := Int.emod_nonneg z (show (18446744073709551616 : Int) ≠ 0 by decide)
  have h2 := Int.emod_lt_of_pos z (show (0 : Int) < 18446744073709551616 by decide)
  omega
theorem up_eq (z : Int) : z % 18446744073709551616 = ((up z : Nat) : Int) := by
  unfold up
  have h1 := Int.emod_nonneg z (show (18446744073709551616 : Int) ≠ 0 by decide)
  omega
theorem pick_up (zs : List Int) (t : Nat) : Dk.pick (zs.map up) t = up (zs.getD t 0) := by
  unfold Dk.pick
  rw [List.getD_eq_getElem?_getD, List.getElem?_map, List.getD_eq_getElem?_getD]
  cases zs[t]? with
  | none => rfl
  | some z => rfl
theorem ints_at {w : World} {ao : Option Addr} {n c : Nat} {zs : List Int} (h : RSrc intKind w ao n c zs) (hn : 0 < n) : ∃ b off, ao = some ⟨b, off, none⟩ ∧ b < w.heap.size ∧ ∀ i z, zs[i]? = some z → w.cell? ⟨b, off + i, none⟩ = some (.int .i64 z) := by
  obtain ⟨b, off, h1, h2, h3⟩ := h.form intKind_ok hn
  refine ⟨b, off, h1, h2, fun i s hs => ?_⟩
  have := h3 i s hs 0 _ rfl
  simpa [intKind] using this
end Go.Proofs.YthnebhddakfadaaGreatDoor
namespace Go.Proofs.YthnebhddakfadaaGreatDoor
open Go.RowKit
open Dk (File Disk)

theorem up_wrap (z : Int) : IntKind.u64.wrap z = ((up z : Nat) : Int) := by
  rw [IntKind.wrap_u64]
  exact up_eq z

set_option maxHeartbeats 1000000 in
set_option maxRecDepth 100000 in
theorem crash_mem (S : Nat → Prop) (b : Nat) (d : Disk) (ao2 : Option Addr) (n2 c2 : Nat) (zs : List Int) (w : World) (h : Mem S w b d) (hz : Steady (Go.Proofs.YthnebhddakfadaaGreatDoor.mine S b) w fun w => RSrc intKind w ao2 n2 c2 zs) (hn2 : n2 ≤ maxLen) :
    Calls Tryz.prog 25 #[.pointer (some ⟨b, 0, none⟩), .slice ao2 n2 c2] w fun e w' => RawPost S w b (0, Dk.crash d (zs.map up)) e w' := by
  obtain ⟨m, l, left, h⟩ := h
  have HM := keep h
  have HZ := keep hz
  have c0 := h.box.c0
  clear h hz
  unfold maxLen at hn2
  go_enter Tryz.func25, Tryz.ntmps25
  go_wp2_with fail
  refine (made_box b m _ c0).mono ?_
  rintro e w0 ⟨rfl, rfl⟩
  go_wp2_with fail
  refine (names_mem S b m l left d _ HM.out).mono ?_
  rintro e w1 ⟨ao, c, rfl, ho, hr, hb⟩
  have HO := keep ho
  have HR := keep hr
  have HB := keep hb
  obtain ⟨N, hN⟩ : ∃ N, d.files.length = N := ⟨_, rfl⟩
  have hNs : N ≤ 1099511627776 := by
    have h1 := HM.out.few.2
    have h2 := HM.out.rel.length
    omega
  rw [hN] at HO HR ⊢
  have HN := keep hN
  clear ho hr hb hN c0
  go_wp2_with fail
  have HS := keep (own_steady (U := Old w0.heap.size) HO.out (fun g hg => hg))
  have hmo : Hid (∀ g, Go.Proofs.YthnebhddakfadaaGreatDoor.mine S b g → Old w0.heap.size g) := fun g hg => by
    rcases hg with hg | hg
    · exact HM.out.lt g hg
    · exact hg ▸ HM.out.box.lt
  clear HR
  go_loopw [14] (fun i wr => ∃ (t : Nat) (l' : List Named), t ≤ N ∧ i = .int .i64 (t : Int) ∧ Hid (MemAt S wr b m l' left { d with files := part d.files (zs.map up) t }) ∧ Hid (Kept (Go.Proofs.YthnebhddakfadaaGreatDoor.mine S b) w1 wr)) (fun i _ => N - (intOf i).toNat)
  case atStart => exact ⟨0, l, Nat.zero_le _, rfl, by
    have := HM.out.below HB.out
    show MemAt S w1 b m l left { d with files := part d.files (zs.map up) 0 }
    rw [part_zero]
    exact this, Kept.refl _ _⟩
  case round =>
    obtain ⟨t, l', ht, rfl, hd, hk⟩ := hrel
    rcases Nat.lt_or_ge t N with hlt | hge
    · obtain ⟨f, hf⟩ : ∃ f, d.files[t]? = some f := ⟨d.files[t]'(by rw [HN.out]; exact hlt), List.getElem?_eq_getElem _⟩
      have hnames : RSrc strKind wr ao N c (d.files.map (·.name)) := by
        obtain ⟨ao', c', e, hr, _⟩ := RSrc.own strKind_ok (HS.out wr (hk.out.wide (fun g _ => hmo.out g))) (fun _ _ => trivial)
        cases e
        exact hr
      obtain ⟨bb, off2, rfl, hbl, hat⟩ := strs_at hnames (by omega)
      have hcell : wr.cell? ⟨bb, off2 + t, none⟩ = some (.string ⟨f.name.toArray⟩) := hat t f.name (by rw [List.getElem?_map, hf]; rfl)
      clear hat hnames
      have hx := keep (part_look (ps := zs.map up) hf hd.out.good.rising)
      have hnx := keep (part_next (ps := zs.map up) hf hd.out.good.rising)
      have hnl : f.name.length ≤ maxLen := by
        have := (named_true (HM.out.good.names f (List.mem_of_getElem? hf))).2.1
        unfold maxLen
        omega
      rw [pick_up] at hnx
      obtain ⟨nm, sf, fb⟩ := f
      clear hf
      have i1 : (t : Int) < (N : Int) := by omega
      have i0 : (0 : Int) ≤ (t : Int) := by omega
      have hzr := HZ.out wr ((Kept.of_below HB.out).trans hk.out)
      have hzl := hzr.len
      obtain ⟨z, hz⟩ : ∃ z, zs.getD t 0 = z := ⟨_, rfl⟩
      rw [hz] at hnx
      have fin : Hid (∀ e w2, (e = Ending.returned (.tuple #[]) ∧ (∃ l2, MemAt S w2 b m l2 left { ({ d with files := part d.files (zs.map up) t } : Disk) with files := Dk.put (part d.files (zs.map up) t) (Dk.kept ⟨nm, sf, fb⟩ (up z)) }) ∧ Kept (Go.Proofs.YthnebhddakfadaaGreatDoor.mine S b) wr w2) → e = .returned (.tuple #[]) ∧ (∃ l2, Hid (MemAt S w2 b m l2 left { d with files := part d.files (zs.map up) (t + 1) })) ∧ Hid (Kept (Go.Proofs.YthnebhddakfadaaGreatDoor.mine S b) w1 w2)) := by
        rintro e w2 ⟨h1, ⟨l2, h2⟩, h3⟩
        rw [hnx.out] at h2
        exact ⟨h1, ⟨l2, h2⟩, hk.out.trans h3⟩
      rcases Nat.lt_or_ge t n2 with hp | hp
      · obtain ⟨pb, po, rfl, hpl, hpat⟩ := ints_at hzr (by omega)
        have hzs : zs[t]? = some z := by
          have hh : t < zs.length := by omega
          rw [List.getElem?_eq_getElem hh, ← hz]
          simp [List.getD, hh]
        have hpc : wr.cell? ⟨pb, po + t, none⟩ = some (.int .i64 z) := hpat t z hzs
        have p1 : (t : Int) < (n2 : Int) := by omega
        clear hpat hzr hzs hz hzl
        go_wp2_with fail
        rw [up_wrap z]
        refine (lose_mem S b m l' left _ nm nm sf fb (up z) _ hd.out hnl hx.out (up_lt z)).mono ?_
        intro e w2 hpost
        obtain ⟨rfl, ⟨l2, hm2⟩, hk2⟩ := fin.out e w2 hpost
        clear hpost
        go_wp2
        go_roundw
        case rel => exact ⟨t + 1, l2, by omega, by first | rfl | go_num, hm2, hk2⟩
        case measure => simp [intOf]; omega
      · have hz0 : z = 0 := by
          rw [← hz]
          have hh : ¬ t < zs.length := by omega
          simp [List.getD, hh]
        subst hz0
        have p1 : ¬ (t : Int) < (n2 : Int) := by omega
        clear hzr hz hzl
        go_wp2_with fail
        refine (lose_mem S b m l' left _ nm nm sf fb (up 0) _ hd.out hnl hx.out (up_lt 0)).mono ?_
        intro e w2 hpost
        obtain ⟨rfl, ⟨l2, hm2⟩, hk2⟩ := fin.out e w2 hpost
        clear hpost
        go_wp2
        go_roundw
        case rel => exact ⟨t + 1, l2, by omega, by first | rfl | go_num, hm2, hk2⟩
        case measure => simp [intOf]; omega
    · obtain rfl : t = N := by omega
      have hbx := keep hd.out.box
      have c2 := hbx.out.c2
      have c3 := hbx.out.c3
      have fw := hbx.out.warm
      have c32 : ∀ v, (wr.setCell ⟨b, 2, none⟩ v).cell? ⟨b, 3, none⟩ = some (.bool d.dark) := fun v => (setCell_cell wr b 2 3 v (by decide)).trans c3
      go_wp2
      go_ret
      have hd1 := hd.out
      have e1 : part d.files (zs.map up) t = Dk.keptAll d.files (zs.map up) := by rw [← HN.out]; exact part_all _ _
      have hgood := Dk.crash_good (zs.map up) HM.out.good
      have hb2 := (hbx.out.set3 false).set2 (-1)
      have hblk : ∀ g, g ≠ b → ((wr.setCell ⟨b, 3, none⟩ (.bool false)).setCell ⟨b, 2, none⟩ (.int .i64 (-1))).heap[g]? = wr.heap[g]? := fun g hg => (Below.heap_setCell _ ⟨b, 2, none⟩ _ g hg).trans (Below.heap_setCell _ ⟨b, 3, none⟩ _ g hg)
      have hne : ∀ g, S g → g ≠ b := fun g hg e => HM.out.out (by rw [← e]; exact hg)
      have hsz : ((wr.setCell ⟨b, 3, none⟩ (.bool false)).setCell ⟨b, 2, none⟩ (.int .i64 (-1))).heap.size = wr.heap.size := by simp only [World.setCell, Array.size_modify]
      have hM2 : MemAt S ((wr.setCell ⟨b, 3, none⟩ (.bool false)).setCell ⟨b, 2, none⟩ (.int .i64 (-1))) b m l' (-1) (Dk.crash d (zs.map up)) := by
        refine ⟨hgood, HM.out.capb, ?_, hd1.map.same (hblk m (hne m hd1.foot.mine)), ?_, hd1.foot, hd1.out, (fun g hg => by rw [hsz]; exact hd1.lt g hg), fun _ => rfl, by omega⟩
        · have := hb2
          rw [e1] at this
          exact this
        · have := hd1.rel
          rw [show ({ d with files := part d.files (zs.map up) t } : Disk).files = Dk.keptAll d.files (zs.map up) from e1] at this
          exact this.turn (fun _ e => e) (fun x hx _ g hg => hblk g (hne g (hd1.foot.arrs x hx g hg).1))
      have hk2 : Kept (Go.Proofs.YthnebhddakfadaaGreatDoor.mine S b) wr ((wr.setCell ⟨b, 3, none⟩ (.bool false)).setCell ⟨b, 2, none⟩ (.int .i64 (-1))) := ((Kept.refl _ _).setCell (p := ⟨b, 3, none⟩) (.inl (.inr rfl)) _).setCell (p := ⟨b, 2, none⟩) (.inl (.inr rfl)) _
      exact ⟨rfl, MemAt.grow HM.out.box.lt HM.out.out hM2.lt hM2 ((Kept.of_below HB.out).trans hk.out) hk2⟩
end Go.Proofs.YthnebhddakfadaaGreatDoor
namespace Go.Proofs.YthnebhddakfadaaGreatDoor
open Go.ChangeShapes Go.WideShapes Go.ChangeAt Go.RowKit Go.Deep

set_option maxRecDepth 100000 in
/-- A slice of numbers among the arguments. -/
theorem open_picks {H : Type} {enc : TypeId × Value → H} {W : World} {v : Value} {d : DataW H} {p : List MemPlace} {base : Nat} (hv : Value.okWide Tryz.prog W .any base 35 v) (h : DataW.Trod enc Tryz.prog W 0 (fun _ => true) true 35 v d p) :
    ∃ ao m c zs, v = .slice ao m c ∧ RSrc intKind W ao m c zs ∧ c ≤ maxLen := by
  obtain ⟨a0, len0, cap0, rfl⟩ := okWide_slice Tryz.underlying35 hv
  obtain ⟨fuel, hf⟩ := h
  obtain ⟨ao, m, c, l, h1, h2, h3, _⟩ := open_ints_of (v := .slice a0 len0 cap0) Tryz.underlying35 Tryz.underlying3 (by kernel_rfl) (by simpa only [Value.cells] using hf)
  exact ⟨ao, m, c, l, h1, h2, h3⟩
end Go.Proofs.YthnebhddakfadaaGreatDoor
