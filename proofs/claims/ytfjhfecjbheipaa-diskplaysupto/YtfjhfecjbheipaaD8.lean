/- The walk of disk's Append: it is done. -/
import Derived.Test.YtfjhfecjbheipaaD7
namespace Go.Proofs.Ytfjhfecjbheipaa
open Go.RowKit
open Dk (File Disk)

/-- Where the bytes lie behind an append: where they lay, or in a new block. -/
theorem append_where {P : Program} {w w' : World} {t ty : TypeId} {i : TypeInfo} {z : Value} (ht : P.underlying t = some (.slice 5)) (hi : P.info? 5 = some i) (hz : i.zero = some z) (hsize : i.size = 1) (hby : i.bytes = 1)
    {v v' : Value} {n : Nat} {k : List UInt8} (hown : w.ownsRow 0 5 1 v n (bv k)) {ad : Addr} {m c : Nat} {l : List UInt8} (hsrc : Src w (some ad) m c l) (hbytes : n + m ≤ 140737488355328)
    (hrun : (Builtin.append_ #[t, t] ty #[v, .slice (some ad) m c]).run P w = .ok v' w') : v'.ownBlock = v.ownBlock ∨ v'.ownBlock = some w.heap.size := by
  have hl : (bv l).length = m * i.size := by rw [bv_length, hsrc.len, hsize]; omega
  have hc := hsrc.cells ad rfl
  rcases hown.2 with ⟨rfl, rfl⟩ | ⟨g, cap, cur, rfl, hbg, hg, hnc, hcm, hcs, htake⟩
  · rcases Nat.eq_zero_or_pos m with h0 | h0
    · subst h0
      simp [Builtin.append_, run_underlying ht, sizeOf, typeInfo, hi, Builtin.lenOf, Builtin.firstCells, loadCells, loadCellsFrom] at hrun
      rw [← hrun.1]
      exact .inl rfl
    · have hr := run_append_nil (P := P) w t ty 5 i z ht hi hz ad m c (bv l) hl hc h0 (by omega) (by rw [hby]; omega)
      rw [hr] at hrun
      cases hrun
      exact .inr rfl
  · by_cases hroom : n + m ≤ cap
    · have hfit : n * i.size + (bv l).length ≤ cur.size := by rw [hl, hcs, hsize]; omega
      have hr := run_append_room (P := P) w t ty 5 i ht hi g n cap cur hg ad m c (bv l) hl hc (bv_one l) hroom hfit
      rw [hr] at hrun
      cases hrun
      exact .inl rfl
    · have hr := run_append_grow (P := P) w t ty 5 i z ht hi hz ⟨g, 0, none⟩ n cap (bv k) (by rw [hown.1, hsize]) (hown.cells (g := g) rfl) ad m c (bv l) hl hc (by omega) (by omega) (growslice_fits (by omega) (by rw [hby]; omega))
      rw [hr] at hrun
      cases hrun
      exact .inr rfl
/-- append(v, x...) as a step of a region that draws; where the bytes lie then. -/
theorem step_append_at {P : Program} {ops : Array Oper} {o : Oper} {a : Act} {w : World} {K : Act → World → Prop} {Q : Exit → Act → World → Prop} {E : Prop} (hg : o.guard = none) (s x : Operand) (t : TypeId)
    (ho : o.op = .call { callee := .builtin .append, args := #[s, x], argTypes := #[t, t] })
    (i : TypeInfo) (z : Value) (ht : P.underlying t = some (.slice 5)) (hi : P.info? 5 = some i) (hz : i.zero = some z)
    (hsize : i.size = 1) (hby : i.bytes = 1) (hzs : z.cells.size = 1)
    (v : Value) (n : Nat) (k : List UInt8) (hs : a.eval s = v) (hown : w.ownsRow 0 5 1 v n (bv k))
    (ao : Option Addr) (m c : Nat) (l : List UInt8) (hx : a.eval x = .slice ao m c) (hsrc : Src w ao m c l)
    (hbytes : n + m ≤ 140737488355328)
    (h : ∀ v' w', w'.ownsRow 0 5 1 v' (n + m) (bv (k ++ l)) → w.grownBy w' v.ownBlock → (v'.ownBlock = v.ownBlock ∨ v'.ownBlock = some w.heap.size) → K (a.put o.dst v') w') : if Region.wanted o (yielded ops a.tmps) = true then Oper.wp P o a w K Q else E := by
  have hw : Region.wanted o (yielded ops a.tmps) = true := by simp [Region.wanted, hg]
  rw [if_pos hw]
  cases ao with
  | none =>
    obtain ⟨rfl, rfl⟩ := hsrc.nil rfl
    have hl : l = [] := List.length_eq_zero_iff.1 hsrc.len
    subst hl
    have hrun := run_append_owned_none (P := P) (w := w) 0 t o.type 5 i 1 ht hi v n (bv k) hown
    unfold Oper.wp
    simp [execOp, ho, resolve, invoke, builtin, hs, hx, hrun, Result.andThen]
    exact h v w (by simpa using hown) (World.grownBy.refl _ _) (.inl rfl)
  | some ad =>
    obtain ⟨v', w', hrun, h1, h2, _⟩ := run_append_own (P := P) w 0 t o.type 5 i z 1 1 ht hi hz hsize hby hzs (by omega) v n (bv k) hown ad m c (bv l) (by rw [bv_length, hsrc.len]; omega) (hsrc.cells ad rfl) (bv_one l) (by unfold maxLen; omega) (by omega) (Nat.zero_le _)
    have hwh := append_where ht hi hz hsize hby hown hsrc hbytes hrun
    unfold Oper.wp
    simp [execOp, ho, resolve, invoke, builtin, hs, hx, hrun, Result.andThen]
    exact h v' w' (by rw [bv_append]; exact h1) h2 hwh
theorem own_size {w : World} {B t k n : Nat} {v : Value} {xs : List Value} (h : w.ownsRow B t k v n xs) {g : Nat} (hg : v.ownBlock = some g) : g < w.heap.size := by
  rcases h.2 with ⟨rfl, _⟩ | ⟨g', cap, cur, rfl, _, hh, _⟩
  · cases hg
  · cases hg
    exact (Array.getElem?_eq_some_iff.1 hh).1
theorem RawPost.drew {S : Nat → Prop} {w : World} {b : Nat} {r : Nat × Disk} {e : Ending} {w' : World} (h : RawPost S w b r e w') : RawPost S w b r e w'.drew := ⟨h.1, h.2.1.below ((Below.refl _ _).drew), h.2.2.drew⟩
/-- What is laid behind the append. -/
theorem append_key {S : Nat → Prop} {w w3 : World} {b m L : Nat} {l : List Named} {left' : Int} {d3 : Disk} {n fb t : List UInt8} {sf : Nat} {ao : Option Addr} {c : Nat} {F mo : Int} {fs : List File}
    (hM : MemAt S w3 b m l left' d3) (hk : Kept (Go.Proofs.Ytfjhfecjbheipaa.mine S b) w w3) (hb : b < w.heap.size) (hS : ∀ g, S g → g < w.heap.size) (hn : n.length ≤ maxLen) (hL : w.heap.size ≤ L)
    (hold : ∀ g, (Value.slice ao fb.length c).ownBlock = some g → S g ∧ g ≠ m ∧ ∀ y ∈ l, y.1 ≠ n → arr y.2 ≠ some g)
    (k0 : w3.cell? ⟨L, 0, none⟩ = some (.int .i64 (sf : Int))) (k1 : w3.cell? ⟨L, 1, none⟩ = some (.slice ao fb.length c))
    (hfs : fs = Dk.put d3.files ⟨n, sf, fb ++ t⟩) (hgood : Dk.Good { d3 with files := fs }) (hF : (d3.cap : Int) - (Dk.used d3.files : Int) = F) (hmo : (d3.cap : Int) - (Dk.used fs : Int) = F - mo) :
    ∀ v4 w4, w4.ownsRow 0 5 1 v4 (fb.length + t.length) (bv (fb ++ t)) → w3.drew.grownBy w4 (Value.slice ao fb.length c).ownBlock → (v4.ownBlock = (Value.slice ao fb.length c).ownBlock ∨ v4.ownBlock = some w3.heap.size) →
      ∃ ao4 c4, v4 = .slice ao4 (fb.length + t.length) c4 ∧ w4.cell? ⟨b, 0, none⟩ = some (.map (some m)) ∧ w4.cell? ⟨L, 0, none⟩ = some (.int .i64 (sf : Int)) ∧ w4.cell? ⟨L, 1, none⟩ = some (.slice ao fb.length c) ∧
        ∃ w5, (Instr.mapUpdate 60 (.map (some m)) (.string ⟨n.toArray⟩) (.agg #[.int .i64 (sf : Int), .slice ao4 (fb.length + t.length) c4])).run Try.prog w4 = .ok () w5 ∧
          w5.cell? ⟨b, 1, none⟩ = some (.int .i64 F) ∧ (∀ i, w5.frozen? ⟨b, i, none⟩ = false) ∧ Hid (RawPost S w b (0, { d3 with files := fs }) (.returned (.int .i64 0)) (w5.setCell ⟨b, 1, none⟩ (.int .i64 (F - mo)))) := by
  intro v4 w4 ho4 hg4 hwh
  obtain ⟨ao4, c4, rfl⟩ := own_slice ho4
  have hbm : b ≠ m := fun e => hM.out (by rw [e]; exact hM.foot.mine)
  have nb : ∀ g, ¬ S g → some g ≠ (Value.slice ao fb.length c).ownBlock := fun g hg e => hg (hold g e.symm).1
  have hmN : some m ≠ (Value.slice ao fb.length c).ownBlock := fun e => (hold m e.symm).2.1 rfl
  have hL2 : ¬ S L := fun e => by have := hS L e; omega
  have hbx4 : Box w4 b m F left' d3.dark (d3.done : Int) := by
    have := hM.box.same (w' := w4) (hg4.block b hM.box.lt (nb b hM.out))
    rwa [hF] at this
  have hmap4 : MapIs Try.prog 9 w4 m l := hM.map.same (hg4.block m (hM.lt m hM.foot.mine) hmN)
  obtain ⟨w5, hrun5, hmap5, hg5⟩ := hmap4.store Try.underlying9 Try.underlying60 n hn hM.few.1 (.agg #[.int .i64 (sf : Int), .slice ao4 (fb.length + t.length) c4])
  have hbx5 : Box w5 b m F left' d3.dark (d3.done : Int) := hbx4.same (hg5.block b hbx4.lt (fun e => hbm (Option.some.inj e)))
  refine ⟨ao4, c4, rfl, hbx4.c0, hg4.cell k0 (nb L hL2), hg4.cell k1 (nb L hL2), w5, hrun5, hbx5.c1, hbx5.warm, ?_⟩
  have hsz : w3.heap.size ≤ w5.heap.size := Nat.le_trans hg4.size hg5.size
  have hblk : ∀ g, g ≠ b → (w5.setCell ⟨b, 1, none⟩ (.int .i64 (F - mo))).heap[g]? = w5.heap[g]? := fun g hg => Below.heap_setCell w5 ⟨b, 1, none⟩ _ g hg
  have hsz5 : (w5.setCell ⟨b, 1, none⟩ (.int .i64 (F - mo))).heap.size = w5.heap.size := by simp only [World.setCell, Array.size_modify]
  have g4 : ∀ g, (Value.slice ao4 (fb.length + t.length) c4).ownBlock = some g → g ≠ m ∧ g ≠ b ∧ g < w4.heap.size ∧ (S g ∨ w.heap.size ≤ g) ∧ ∀ y ∈ l, y.1 ≠ n → arr y.2 ≠ some g := by
    intro g hg
    refine ⟨?_, ?_, own_size ho4 hg, ?_, ?_⟩
    all_goals rcases hwh with e | e
    · rw [hg] at e; exact (hold g e.symm).2.1
    · rw [hg] at e
      have e := Option.some.inj e
      have := hM.lt m hM.foot.mine
      omega
    · rw [hg] at e; exact fun e2 => hM.out (by rw [← e2]; exact (hold g e.symm).1)
    · rw [hg] at e
      have e := Option.some.inj e
      have := hM.box.lt
      omega
    · rw [hg] at e; exact .inl (hold g e.symm).1
    · rw [hg] at e
      have e := Option.some.inj e
      have := hk.size
      exact .inr (by omega)
    · rw [hg] at e; exact (hold g e.symm).2.2
    · rw [hg] at e
      have e := Option.some.inj e
      intro y hy _ hy2
      have := hM.lt g (hM.foot.arrs y hy g hy2).1
      omega
  have hlaid := hM.laid (S' := more S w (w5.setCell ⟨b, 1, none⟩ (.int .i64 (F - mo)))) (fs := fs) (f := ⟨n, sf, fb ++ t⟩) (v := filev (sf : Int) (.slice ao4 (fb.length + t.length) c4)) (n := n) (w' := w5.setCell ⟨b, 1, none⟩ (.int .i64 (F - mo))) (hmap5.same (hblk m (fun e => hbm e.symm)))
    ⟨_, rfl, by
      have h1 : (w5.setCell ⟨b, 1, none⟩ (.int .i64 (F - mo))).ownsRow 0 5 1 (.slice ao4 (fb.length + t.length) c4) (fb.length + t.length) (bv (fb ++ t)) := own_block ho4 (fun g hg => (hblk g (g4 g hg).2.1).trans (hg5.block g (g4 g hg).2.2.1 (fun e => (g4 g hg).1 (Option.some.inj e))))
      rw [show (⟨n, sf, fb ++ t⟩ : File).bytes.length = fb.length + t.length from List.length_append]
      exact h1⟩ rfl hfs
    (fun x hx hne g hg => by
      have hx2 := hM.foot.arrs x hx g hg
      refine (hblk g (fun e => hM.out (by rw [← e]; exact hx2.1))).trans ((hg5.block g (Nat.lt_of_lt_of_le (hM.lt g hx2.1) hg4.size) (fun e => hx2.2 (Option.some.inj e))).trans (hg4.block g (hM.lt g hx2.1) (fun e => ?_)))
      exact (hold g e.symm).2.2 x hx hne hg)
    (by rw [hmo]; exact hbx5.set1 _)
    (fun g hg => ⟨by
      rcases (g4 g hg).2.2.2.1 with h1 | h1
      · exact .inl h1
      · exact .inr ⟨h1, by rw [hsz5]; exact Nat.lt_of_lt_of_le (g4 g hg).2.2.1 hg5.size⟩, (g4 g hg).1, (g4 g hg).2.2.2.2⟩) (fun g hg => .inl hg)
    (fun e => by
      rcases e with e | e
      · exact hM.out e
      · omega)
    (fun g hg => by
      rcases hg with hg | hg
      · rw [hsz5]; exact Nat.lt_of_lt_of_le (hM.lt g hg) hsz
      · exact hg.2) hgood
  refine ⟨rfl, ⟨_, _, _, hlaid⟩, ?_⟩
  refine (hk.trans' (V := fun g => S g ∨ g = b) (c := w5.setCell ⟨b, 1, none⟩ (.int .i64 (F - mo))) ?_ (fun g _ e => e))
  have h1 : Kept (fun g => S g ∨ g = b) w3 w4 := (Kept.refl _ w3).drew.grown hg4 (fun k e => .inl (.inl (hold k e).1))
  exact (h1.grown hg5 (fun k e => .inl (.inl (by cases e; exact hM.foot.mine)))).setCell (p := ⟨b, 1, none⟩) (.inl (.inr rfl)) _

set_option maxHeartbeats 1000000 in
set_option maxRecDepth 100000 in
theorem append_go_there (S : Nat → Prop) (b : Nat) (d : Disk) (n nm t : List UInt8) (sf : Nat) (fb : List UInt8) (ao2 : Option Addr) (c2 : Nat) (w : World) (h : Mem S w b d) (hn : n.length ≤ maxLen) (htl : (t.length : Int) ≤ 4096) (hsrc : Steady (Go.Proofs.Ytfjhfecjbheipaa.mine S b) w fun w => Src w ao2 t.length c2 t) (hz : ahead d.dark [n] = 0) (hd : d.dark = false) (ho0 : d.done ≤ 4611686018427387904) (hx : Dk.look d.files n = some ⟨nm, sf, fb⟩) (hroom : ¬ ((d.cap : Int) - (Dk.used d.files : Int)) < (t.length : Int)) (ht : (Dk.tick d).1 = true) :
    Calls Try.prog 19 #[.pointer (some ⟨b, 0, none⟩), .string ⟨n.toArray⟩, .slice ao2 t.length c2] w fun e w' => RawPost S w b (0, { (Dk.tick d).2 with files := Dk.put d.files ⟨nm, sf, fb ++ t⟩ }) e w' := by
  obtain ⟨m, l, left, h⟩ := h
  have HM := keep h
  clear h
  have HZ := keep hz
  have HX := keep hx
  have HD := keep hd
  have HS := keep hsrc
  have hnl : n.length ≤ 100 := by
    have := HZ.out
    unfold ahead at this
    simp only [List.all_cons, List.all_nil, Bool.and_true] at this
    cases hh : Dk.named n with
    | true => exact (named_true hh).2.1
    | false => rw [hh] at this; simp at this
  clear hz hx hd hsrc
  have HT := keep ht
  clear ht
  obtain ⟨F, hF, F0, F1⟩ : ∃ F : Int, (d.cap : Int) - (Dk.used d.files : Int) = F ∧ 0 ≤ F ∧ F ≤ 1099511627776 := ⟨_, rfl, by have := HM.out.good.room; omega, by have := HM.out.capb; omega⟩
  rw [hF] at hroom
  have HF := keep hF
  clear hF
  go_enter Try.func19, Try.ntmps19
  go_wp2_with fail
  have hm1 := HM.out.below ((Below.refl _ w).alloc (Nat.le_refl _) (.cells #[.string ⟨n.toArray⟩] 9))
  refine (ready_box b m _ left d.dark _ _ 1 1 [n] _ hm1.box (one_name w n 9) (by omega)).mono ?_
  rintro e w2 ⟨rfl, hb2⟩
  have hb3 := keep (((Below.refl _ w).alloc (Nat.le_refl _) (.cells #[.string ⟨n.toArray⟩] 9)).trans (hb2.mono (by simp)))
  clear hb2 hm1
  rw [HZ.out]
  have hm2 := HM.out.below hb3.out
  have c02 := hm2.box.c0
  have c12 : ∀ o : Obj, (w2.alloc o).cell? ⟨b, 1, none⟩ = some (.int .i64 F) := fun o => by
    have := (hm2.below ((Below.refl _ _).alloc (Nat.le_refl _) o)).box.c1
    rw [HF.out] at this
    exact this
  obtain ⟨ao, c, hl, ho, hs, hin⟩ := look_there hm2.map hm2.rel hn HX.out
  have HL := keep hl
  have HO := keep ho
  have HIN := keep hin
  have HM2 := keep hm2
  clear hl ho hs hin hm2
  go_wp2_with (first | (at_lookup; refine wpList_look rfl _ _ _ _ rfl _ _ _ rfl rfl HL.out ?_) | fail)
  refine (count_mem S b m l left d _ (HM2.out.below ((Below.refl _ _).alloc (Nat.le_refl _) _)) HD.out ho0).mono ?_
  rintro e w3 ⟨left', rfl, hm3, hk3⟩
  rw [HT.out]
  have hk4 := keep (((Kept.of_below (U := Go.Proofs.Ytfjhfecjbheipaa.mine S b) hb3.out).alloc (.cells #[.int .i64 (sf : Int), .slice ao fb.length c] 58)).trans (hk3.wide (fun g _ e => .inr e)))
  have hm4 := keep hm3
  have hw2 : b < w2.heap.size := Nat.lt_of_lt_of_le HM.out.box.lt hb3.out.size
  have k0 : w3.cell? ⟨w2.heap.size, 0, none⟩ = some (.int .i64 (sf : Int)) := local_cell hk3 hw2 (cell_of_row _ _ _ _ _ _ (heap_alloc_new w2 _))
  have k1 : w3.cell? ⟨w2.heap.size, 1, none⟩ = some (.slice ao fb.length c) := local_cell hk3 hw2 (cell_of_row _ _ _ _ _ _ (heap_alloc_new w2 _))
  have c03 := hm3.box.c0
  have hfl : (Dk.tick d).2.files = d.files := (Dk.tick_files d).1
  have hcp : (Dk.tick d).2.cap = d.cap := (Dk.tick_files d).2
  have hfbl : fb.length ≤ 1099511627776 := by
    have h1 := used_mem (Dk.look_some HX.out).1
    have h2 := HM.out.good.room
    have h3 := HM.out.capb
    simp only [Dk.cost] at h1
    omega
  have hO3 : Hid (w3.drew.ownsRow 0 5 1 (.slice ao fb.length c) fb.length (bv fb)) := own_block HO.out (fun g hg => by
    have hS := (HM.out.foot.arrs _ HIN.out g hg).1
    have hlt := (HM2.out.lt g hS)
    show w3.heap[g]? = _
    rw [hk3.block g (by simp; omega) (fun e => HM.out.out (by rw [← (show g = b from e)]; exact hS)), Below.heap_alloc _ _ g hlt])
  have hS3 : Hid (Src w3.drew ao2 t.length c2 t) := HS.out _ hk4.out.drew
  have hnm := (Dk.look_some HX.out).2
  have hgood : Dk.Good { (Dk.tick d).2 with files := Dk.put d.files ⟨nm, sf, fb ++ t⟩ } := by
    have h1 := Dk.raw_good 0 n [] t HM.out.good
    have hok : Dk.okay 0 n [] t = true := by
      have := HZ.out
      unfold ahead at this
      simp only [List.all_cons, List.all_nil, Bool.and_true] at this
      show (Dk.named n && decide (t.length ≤ 4096)) = true
      cases hh : Dk.named n with
      | true => simp; omega
      | false => rw [hh] at this; simp at this
    rw [Dk.raw_do hok HD.out (l := Dk.put d.files ⟨nm, sf, fb ++ t⟩) (by
      have hF2 := HF.out
      simp only [Dk.planOf, Dk.planAppend, HX.out]
      rw [if_neg (by omega)]), Dk.write_go HT.out] at h1
    exact h1
  have KEY := keep (append_key (t := t) (L := w2.heap.size) (F := F) (mo := (t.length : Int)) (fs := Dk.put d.files ⟨nm, sf, fb ++ t⟩) (n := n) hm3 hk4.out HM.out.box.lt HM.out.lt hn hb3.out.size
    (fun g hg => ⟨(HM.out.foot.arrs _ HIN.out g hg).1, (HM.out.foot.arrs _ HIN.out g hg).2, fun y hy hne e => HM.out.foot.apart _ HIN.out y hy (fun e => hne e.symm) g hg e⟩) k0 k1
    (by rw [hfl, show nm = n from hnm]) hgood (by rw [hcp, hfl]; exact HF.out) (by
      have h1 := Dk.used_put_old (f := ⟨nm, sf, fb ++ t⟩) HM.out.good.rising (by rw [show (⟨nm, sf, fb ++ t⟩ : File).name = n from hnm]; exact HX.out)
      have h2 := HF.out
      simp only [Dk.cost, List.length_append] at h1
      rw [hcp]
      omega))
  have hwr : IntKind.i64.wrap (F - (t.length : Int)) = F - (t.length : Int) := wrap_small _ (by omega) (by omega)
  obtain ⟨i0, hi, hz0, hz1, hz2⟩ := info_parts info5
  clear hm3 hk3 c02 c12 hfl hcp hgood hnm
  go_wp2_with fail
  go_region_law (refine step_append_at rfl _ _ 35 rfl i0 _ Try.underlying35 hi hz0 hz1 hz2 rfl _ fb.length fb rfl hO3.out _ t.length c2 t rfl hS3.out (by omega) ?_; intro v4 w4 q1 q2 q3; obtain ⟨ao4, c4, rfl, c04, k04, k14, w5, hrun5, c15, f5, fin⟩ := KEY.out v4 w4 q1 q2 q3; clear q1 q2 q3)
  all_goals go_wp2
  all_goals (first | go_ret | (go_outline; trace_state))
  all_goals (first | exact fin.out | exact fin.out.drew)
end Go.Proofs.Ytfjhfecjbheipaa
