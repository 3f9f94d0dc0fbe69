/- The walk of table's read. -/
import Derived.Test.YtjblicgbdecbcaaZQ5
import Derived.Test.YtjblicgbdecbcaaZQr
import Derived.Deep.Cut
namespace Go.Proofs.Ytjblicgbdecbcaa
open Go.RowKit
open Sk (Ent)

/-- A text taken: what it is, what is left, where that lies. -/
def TookS (w : World) (S R : List UInt8) (e : Ending) (w' : World) : Prop :=
  ∃ ao c E, e = .returned (.tuple #[.string ⟨S.toArray⟩, .slice ao R.length c, .int .i64 E]) ∧ Src w' ao R.length c R ∧ In5 w' ao ∧ Below w.heap.size w w'
theorem takeText_own (ao : Option Addr) (m c : Nat) (l : List UInt8) (most : Int) (w : World) (hm : m ≤ 140737488355328) (hs : Src w ao m c l) :
    Calls Try.prog 53 #[.slice ao m c, .int .i64 most] w (TookS w (Bq.tS l most) (Bq.tR l most)) :=
  (takeTextO_any ao m c l most w hm hs).mono fun e w' h => by
    rcases h with ⟨S, R, ao2, c2, ht, rfl, hs2, h5, hb⟩ | ⟨ht, rfl, hb⟩
    · have e1 : Bq.tS l most = S := by simp [Bq.tS, ht]
      have e2 : Bq.tR l most = R := by simp [Bq.tR, ht]
      rw [e1, e2]
      exact ⟨ao2, c2, 0, rfl, hs2, h5, hb⟩
    · have e1 : Bq.tS l most = [] := by simp [Bq.tS, ht]
      have e2 : Bq.tR l most = [] := by simp [Bq.tR, ht]
      rw [e1, e2]
      exact ⟨none, 0, 2, rfl, Src.empty (fun _ => rfl), in5_none _, hb⟩
/-- Pointers as they lie in memory. -/
def ptrKind : Kind Nat where
  size := 1
  vals p := [.pointer (some ⟨p, 0, none⟩)]
  held _ _ := True
theorem ptrKind_ok : ptrKind.Ok :=
  ⟨by decide, fun _ => rfl, fun e u hu => by
    simp only [ptrKind, List.mem_cons, List.not_mem_nil, or_false] at hu
    rw [hu]; rfl, fun _ _ => trivial⟩
theorem infoP : (Try.prog.info? 63).map (fun i => (i.zero, i.size, i.bytes)) = some (some (.pointer none), 1, 8) := by kernel_rfl
/-- A piece that was not asked yet. -/
structure PE where
  blk : Nat
  ra : Option Addr
  rc : Nat
  raw : List UInt8
structure PRaw (w : World) (p : PE) : Prop where
  row : w.heap[p.blk]? = some (.cells #[.int .u32 0, .int .i32 0, .int .u32 0, .slice p.ra p.raw.length p.rc, .slice none 0 0] 97)
  src : Src w p.ra p.raw.length p.rc p.raw
  in5 : In5 w p.ra
theorem PRaw.turn {w w' : World} {p : PE} (h : PRaw w p) (ht : T5 w w') (hp : w'.heap[p.blk]? = w.heap[p.blk]?) : PRaw w' p := ⟨hp.trans h.row, src_turn h.src h.in5 ht, h.in5.turn ht⟩
theorem PRaw.below {w w' : World} {p : PE} (h : PRaw w p) (hb : Below w.heap.size w w') : PRaw w' p := h.turn (T5.of_below hb) (hb.block _ (Array.getElem?_eq_some_iff.1 h.row).1)
/-- How far read has come: k pieces are there. -/
structure RdT (w : World) (tb : Nat) (R0 : List UInt8) (k : Nat) (ps : List PE) (v : Value) (ra : Option Addr) (M rc : Nat) (wr : World) : Prop where
  tab : wr.heap[tb]? = some (.cells #[v, .slice none 0 0] 62)
  row : wr.ownsRow w.heap.size 63 1 v ps.length (rv ptrKind (ps.map (·.blk)))
  each : ∀ p ∈ ps, PRaw wr p
  far : ∀ p ∈ ps, w.heap.size ≤ p.blk
  nodup : (ps.map (·.blk)).Nodup
  raws : ps.map (·.raw) = Tq.readP k R0
  rest : Src wr ra M rc (Tq.readR k R0)
  bel : Below w.heap.size w wr
theorem RdT.len {w : World} {tb : Nat} {R0 : List UInt8} {k : Nat} {ps : List PE} {v : Value} {ra : Option Addr} {M rc : Nat} {wr : World} (h : RdT w tb R0 k ps v ra M rc wr) : ps.length = k := by
  have := congrArg List.length h.raws
  rwa [List.length_map, Tq.readP_len] at this
theorem RdT.next {w : World} {tb : Nat} {R0 : List UInt8} {k : Nat} {ps : List PE} {v v8 : Value} {ra : Option Addr} {M rc : Nat} {wr w2 w8 : World} (h : RdT w tb R0 k ps v ra M rc wr) (htb : w.heap.size ≤ tb) (hb2 : Below wr.heap.size wr w2)
    {W5 : World} {S : List UInt8} {kS : Nat} (hS : S = Bq.tS (Tq.readR k R0) ((Tq.readR k R0).length : Nat)) (hb5 : Below w2.heap.size w2 W5) (hs5 : Src W5 (some ⟨w2.heap.size, 0, none⟩) S.length kS S) (h55 : In5 W5 (some ⟨w2.heap.size, 0, none⟩))
    {ra2 : Option Addr} {rc2 : Nat} (hr2 : Src w2 ra2 (Bq.tR (Tq.readR k R0) ((Tq.readR k R0).length : Nat)).length rc2 (Bq.tR (Tq.readR k R0) ((Tq.readR k R0).length : Nat))) (hr5 : In5 w2 ra2)
    (ho : w8.ownsRow w.heap.size 63 1 v8 (ps.length + 1) (rv ptrKind (ps.map (·.blk) ++ [W5.heap.size])))
    (hg : ((W5.alloc (Obj.cells #[.int .u32 0, .int .i32 0, .int .u32 0, .slice (some ⟨w2.heap.size, 0, none⟩) S.length kS, .slice none 0 0] 97)).alloc (Obj.cells #[.pointer (some ⟨W5.heap.size, 0, none⟩)] 63)).grownBy w8 v.ownBlock) :
    w8.heap[tb]? = some (.cells #[v, .slice none 0 0] 62) ∧ RdT w tb R0 (k + 1) (ps ++ [⟨W5.heap.size, some ⟨w2.heap.size, 0, none⟩, kS, S⟩]) v8 ra2 (Bq.tR (Tq.readR k R0) ((Tq.readR k R0).length : Nat)).length rc2 (w8.setCell ⟨tb, 0, none⟩ v8) := by
  obtain ⟨W7, hW7⟩ : ∃ W7 : World, ((W5.alloc (Obj.cells #[.int .u32 0, .int .i32 0, .int .u32 0, .slice (some ⟨w2.heap.size, 0, none⟩) S.length kS, .slice none 0 0] 97)).alloc (Obj.cells #[.pointer (some ⟨W5.heap.size, 0, none⟩)] 63)) = W7 := ⟨_, rfl⟩
  have b57 : Below W5.heap.size W5 W7 := by rw [← hW7]; exact ((Below.refl _ _).alloc (Nat.le_refl _) _).alloc (by simp) _
  have p7 : W7.heap[W5.heap.size]? = some (.cells #[.int .u32 0, .int .i32 0, .int .u32 0, .slice (some ⟨w2.heap.size, 0, none⟩) S.length kS, .slice none 0 0] 97) := by
    rw [← hW7]; exact (Below.heap_alloc _ _ _ (by simp)).trans (heap_alloc_new W5 _)
  rw [hW7] at hg
  have b7 : Below wr.heap.size wr W7 := hb2.trans ((hb5.trans (b57.mono hb5.size)).mono hb2.size)
  have b27 : Below w2.heap.size w2 W7 := hb5.trans (b57.mono hb5.size)
  have r7 := own_block h.row (fun g hg => b7.block g (own_size h.row hg))
  have keepB : ∀ (g : Nat) (c : Array Value) (t : TypeId), W7.heap[g]? = some (Obj.cells c t (0, 0)) → t ≠ 63 → w8.heap[g]? = W7.heap[g]? := fun g c t hgc hne => hg.block g (Array.getElem?_eq_some_iff.1 hgc).1 (fun e => by
    obtain ⟨cur, hc⟩ := own_tag r7 e.symm
    rw [hgc] at hc
    cases hc
    exact hne rfl)
  have t8 : w8.heap[tb]? = some (.cells #[v, .slice none 0 0] 62) := by
    have h7 : W7.heap[tb]? = some (.cells #[v, .slice none 0 0] 62) := (b7.block _ (Array.getElem?_eq_some_iff.1 h.tab).1).trans h.tab
    exact (keepB tb _ _ h7 (by decide)).trans h7
  have T78 : T5 W7 w8 := T5.of_grown r7 (by decide) hg
  have T89 : T5 w8 (w8.setCell ⟨tb, 0, none⟩ v8) := fun g cur fr hc => Below.heap_setCell _ _ _ g (fun e => by rw [show g = tb from e, t8] at hc; cases hc)
  have T79 : T5 W7 (w8.setCell ⟨tb, 0, none⟩ v8) := fun g cur fr hc => (T89 g cur fr ((T78 g cur fr hc).trans hc)).trans (T78 g cur fr hc)
  have far9 : ∀ (g : Nat) (c : Array Value), W7.heap[g]? = some (Obj.cells c 97 (0, 0)) → (w8.setCell ⟨tb, 0, none⟩ v8).heap[g]? = W7.heap[g]? := fun g c hgc =>
    (Below.heap_setCell _ _ _ g (fun e => by
      have := keepB g _ _ hgc (by decide)
      rw [show g = tb from e, t8, ← show g = tb from e, hgc] at this
      cases this)).trans (keepB g _ _ hgc (by decide))
  have h7 : ∀ p ∈ ps, PRaw W7 p := fun p hp => (h.each p hp).below b7
  have hnew : PRaw W7 ⟨W5.heap.size, some ⟨w2.heap.size, 0, none⟩, kS, S⟩ := ⟨p7, hs5.below b57, h55.turn (T5.of_below b57)⟩
  have b8 : Below w.heap.size w w8 := (h.bel.trans (b7.mono h.bel.size)).grown hg (Nat.le_trans h.bel.size b7.size) (fun j hj => (r7.lt j hj).1)
  refine ⟨t8, set_row t8 0 v8, ?_, ?_, ?_, ?_, ?_, ?_, b8.setCell (p := ⟨tb, 0, none⟩) htb _⟩
  · rw [List.length_append, List.map_append]
    refine own_block ho (fun g hg => Below.heap_setCell _ _ _ g (fun e => ?_))
    obtain ⟨cur, hc⟩ := own_tag ho hg
    rw [show g = tb from e, t8] at hc
    cases hc
  · intro p hp
    rcases List.mem_append.1 hp with hp | hp
    · exact (h7 p hp).turn T79 (far9 _ _ (h7 p hp).row)
    · rw [List.mem_singleton.1 hp]
      exact hnew.turn T79 (far9 _ _ hnew.row)
  · intro p hp
    rcases List.mem_append.1 hp with hp | hp
    · exact h.far p hp
    · rw [List.mem_singleton.1 hp]
      exact Nat.le_trans (Nat.le_trans h.bel.size hb2.size) hb5.size
  · rw [List.map_append]
    refine List.nodup_append.2 ⟨h.nodup, by simp, fun a ha b hb e => ?_⟩
    obtain ⟨p, hp, rfl⟩ := List.mem_map.1 ha
    simp only [List.map_cons, List.map_nil, List.mem_singleton] at hb
    have h1 := (Array.getElem?_eq_some_iff.1 (h.each p hp).row).1
    have h2 := hb2.size
    have h3 := hb5.size
    omega
  · rw [List.map_append, h.raws, Tq.readP_succ, ← hS]
    rfl
  · rw [Tq.readR_succ]
    exact src_turn (hr2.below b27) (hr5.turn (T5.of_below b27)) T79
/-- A table as it is read: its pieces not asked yet. -/
structure TRaw (B : Nat) (w : World) (tb : Nat) (ps : List PE) (F : List UInt8) : Prop where
  tab : ∃ pa pc fa fc, w.heap[tb]? = some (.cells #[.slice pa ps.length pc, .slice fa F.length fc] 62) ∧ RSrc ptrKind w pa ps.length pc (ps.map (·.blk)) ∧ Src w fa F.length fc F ∧ In5 w fa ∧ (∀ ad, pa = some ad → ∃ cur, w.heap[ad.block]? = some (.cells cur 63 (0, 0)))
  each : ∀ p ∈ ps, PRaw w p
  far : ∀ p ∈ ps, B ≤ p.blk
  nodup : (ps.map (·.blk)).Nodup
  ge : B ≤ tb
theorem RdT.last {w : World} {tb : Nat} {R0 : List UInt8} {k : Nat} {ps : List PE} {v : Value} {ra : Option Addr} {M rc : Nat} {wr W5 : World} (h : RdT w tb R0 k ps v ra M rc wr) (htb : w.heap.size ≤ tb) (hb : Below wr.heap.size wr W5) {F : List UInt8} {fa : Option Addr} {fc : Nat} (hs : Src W5 fa F.length fc F) (h5 : In5 W5 fa) :
    W5.heap[tb]? = some (.cells #[v, .slice none 0 0] 62) ∧ TRaw w.heap.size (W5.setCell ⟨tb, 1, none⟩ (.slice fa F.length fc)) tb ps F ∧ Below w.heap.size w (W5.setCell ⟨tb, 1, none⟩ (.slice fa F.length fc)) := by
  have t5 : W5.heap[tb]? = some (.cells #[v, .slice none 0 0] 62) := (hb.block _ (Array.getElem?_eq_some_iff.1 h.tab).1).trans h.tab
  have T : T5 W5 (W5.setCell ⟨tb, 1, none⟩ (.slice fa F.length fc)) := fun g cur fr hc => Below.heap_setCell _ _ _ g (fun e => by rw [show g = tb from e, t5] at hc; cases hc)
  have r5 := own_block h.row (fun g hg => hb.block g (own_size h.row hg))
  have r6 : (W5.setCell ⟨tb, 1, none⟩ (.slice fa F.length fc)).ownsRow w.heap.size 63 1 v ps.length (rv ptrKind (ps.map (·.blk))) := own_block r5 (fun g hg => Below.heap_setCell _ _ _ g (fun e => by
    obtain ⟨cur, hc⟩ := own_tag r5 hg
    rw [show g = tb from e, t5] at hc
    cases hc))
  obtain ⟨pa, pc, rfl, hR, _⟩ := RSrc.own ptrKind_ok r6 (fun _ _ => trivial)
  refine ⟨t5, ⟨⟨pa, pc, fa, fc, set_row t5 1 _, hR, src_turn hs h5 T, h5.turn T, fun ad had => ?_⟩, fun p hp => ?_, h.far, h.nodup, htb⟩, (h.bel.trans (hb.mono h.bel.size)).setCell (p := ⟨tb, 1, none⟩) htb _⟩
  · subst had
    exact own_tag r6 rfl
  · have h1 := (h.each p hp).below hb
    refine h1.turn T (Below.heap_setCell _ _ _ _ (fun e => ?_))
    have h2 := h1.row
    rw [show p.blk = tb from e, t5] at h2
    cases h2
set_option maxHeartbeats 4000000 in
set_option maxRecDepth 100000 in
theorem read_any (ao : Option Addr) (m c : Nat) (b : List UInt8) (w : World) (hm : m ≤ 140737488355328) (hs : Src w ao m c b) :
    Calls Try.prog 30 #[.slice ao m c] w fun e w' => ∃ tb, e = .returned (.pointer (some ⟨tb, 0, none⟩)) ∧ ∃ ps, TRaw w.heap.size w' tb ps (Tq.filtOf b) ∧ ps.map (·.raw) = Tq.pieces b ∧ Below w.heap.size w w' := by
  obtain ⟨i0, hi0, hz0, hz1, hz2⟩ := info_parts22q infoP
  have hlen := hs.len
  obtain ⟨W1, hW1⟩ : ∃ W1, w.alloc (.cells #[.slice none 0 0, .slice none 0 0] 62) = W1 := ⟨_, rfl⟩
  have b1 : Hid (Below w.heap.size w W1) := by rw [← hW1]; exact (Below.refl _ _).alloc (Nat.le_refl _) _
  have g1 : Hid (W1.heap[w.heap.size]? = some (.cells #[.slice none 0 0, .slice none 0 0] 62)) := by rw [← hW1]; exact heap_alloc_new w _
  have HS := keep (hs.below b1.out)
  have hcap := hs.cap
  have hnil := hs.nil
  clear hs
  go_enter Try.func30, Try.ntmps30
  have B4 : Hid (∀ (a2 : Option Addr) (m2 c2 : Nat), Src W1 a2 m2 c2 (b.drop 4) → Calls Try.prog 52 #[.slice a2 m2 c2] W1 (TookN W1 (nOf (b.drop 4)) (rOf (b.drop 4)) (eOf (b.drop 4)))) := fun a2 m2 c2 h => takeNum_own a2 m2 c2 (b.drop 4) W1 (by have := h.len; rw [List.length_drop, hlen] at this; omega) h
  have HPN : Hid (Tq.pn b = min (nOf (b.drop 4)) 8) := rfl
  have HPC : Hid (Tq.pieces b = Tq.readP (Tq.pn b) (rOf (b.drop 4))) := rfl
  have HFO : Hid (Tq.filtOf b = Bq.tS (Tq.readR (Tq.pn b) (rOf (b.drop 4))) ((Tq.readR (Tq.pn b) (rOf (b.drop 4))).length : Nat)) := rfl
  have RL : Hid ((rOf (b.drop 4)).length ≤ 140737488355328) := by
    have h1 := Bq.rOf_len (b.drop 4)
    rw [List.length_drop, hlen] at h1
    show _ ≤ _
    omega
  have NL : Hid (nOf (b.drop 4) < 4611686018427387904) := Bq.nOf_le _
  obtain ⟨N, hN⟩ : ∃ N, nOf (b.drop 4) = N := ⟨_, rfl⟩
  obtain ⟨R, hR⟩ : ∃ R, rOf (b.drop 4) = R := ⟨_, rfl⟩
  obtain ⟨E, hE⟩ : ∃ E, eOf (b.drop 4) = E := ⟨_, rfl⟩
  rw [hN, hR, hE] at B4
  rw [hN] at HPN NL
  rw [hR] at HPC HFO RL
  clear hN hR hE
  unfold TookN at B4
  go_upto_region 2 with fail
  refine region_share (fun a a' w' => ∃ (v19 v20 : Value) (a2 : Option Addr) (c2 : Nat), a' = sets a [(16, .slice ao m c), (17, .slice ao m c), (18, .int .i64 (m : Int)), (19, v19), (20, v20), (21, .tuple #[.int .i64 (N : Int), .slice a2 R.length c2, .int .i64 E]), (15, .tuple #[.int .i64 (N : Int), .slice a2 R.length c2, .int .i64 E]), (0x16, .int .i64 (N : Int)), (23, .slice a2 R.length c2), (24, .int .i64 E), (4, .int .i64 (N : Int)), (5, .slice a2 R.length c2), (6, .int .i64 E)] ∧ Src w' a2 R.length c2 R ∧ In5 w' a2 ∧ Below W1.heap.size W1 w') ?_ ?_
  · have X1 : Hid (m ≤ 4 → ∀ (a2 : Option Addr) (c2 : Nat), (a2 = none → c2 = 0) → Src W1 a2 0 c2 (b.drop 4)) := fun h a2 c2 hc => by
      rw [List.drop_eq_nil_of_le (by omega)]
      exact Src.empty hc
    have NIL := keep hnil
    have LE := keep hlen
    clear hlen
    by_cases h3 : m < 4
    · have e1 : (m : Int) < 4 := by omega
      have X3 := keep (X1.out (by omega))
      by_cases hmc : m = c
      · subst hmc
        have X2 := keep (X3.out ao 0 (fun _ => rfl))
        clear X1 X3 h3 hcap hnil
        go_wp2_with fail
        refine (B4.out _ _ _ X2.out).mono ?_
        rintro e w2 ⟨a2, c2, rfl, hs2, h52, hb2⟩
        have S2 := keep hs2
        have I2 := keep h52
        have B2 := keep hb2
        clear hs2 h52 hb2
        go_wp2
        exact ⟨_, _, a2, c2, (by simp only [sets, Act.put, List.setIfInBounds_toArray, List.set_cons_zero, List.set_cons_succ]; all_goals rfl), S2.out, I2.out, B2.out⟩
      · have X2 : Hid (Src W1 (Option.map (fun x => x.add m) ao) 0 (c - m) (b.drop 4)) := X3.out _ _ (fun h => by
          have h1 : ao = none := by simpa using h
          have := (NIL.out h1).2
          omega)
        have hcm : ¬ c = m := fun e => hmc e.symm
        clear X1 X3 h3 hnil
        go_wp2_with fail
        refine (B4.out _ _ _ X2.out).mono ?_
        rintro e w2 ⟨a2, c2, rfl, hs2, h52, hb2⟩
        have S2 := keep hs2
        have I2 := keep h52
        have B2 := keep hb2
        clear hs2 h52 hb2
        go_wp2
        exact ⟨_, _, a2, c2, (by simp only [sets, Act.put, List.setIfInBounds_toArray, List.set_cons_zero, List.set_cons_succ]; all_goals rfl), S2.out, I2.out, B2.out⟩
    · have e1 : ¬ (m : Int) < 4 := by omega
      have e2 : (4 : Int) ≤ (m : Int) := by omega
      by_cases hmc : c = 4
      · subst hmc
        obtain rfl : m = 4 := by omega
        have X2 := keep (X1.out (by omega) ao 0 (fun _ => rfl))
        clear X1 h3 hcap hnil e1 e2
        go_wp2_with fail
        refine (B4.out _ _ _ X2.out).mono ?_
        rintro e w2 ⟨a2, c2, rfl, hs2, h52, hb2⟩
        have S2 := keep hs2
        have I2 := keep h52
        have B2 := keep hb2
        clear hs2 h52 hb2
        go_wp2
        exact ⟨_, _, a2, c2, (by simp only [sets, Act.put, List.setIfInBounds_toArray, List.set_cons_zero, List.set_cons_succ]; all_goals rfl), S2.out, I2.out, B2.out⟩
      · obtain ⟨bb, off, rfl, _, _⟩ := HS.out.form (by omega)
        have X2 : Hid (Src W1 (some ⟨bb, off + 4, none⟩) (m - 4) (c - 4) (b.drop 4)) := by
          have h1 := HS.out.tail 4 (by omega)
          rw [Option.map_some, Addr.add_mid] at h1
          exact h1
        clear X1 h3 hnil
        go_wp2_with fail
        refine (B4.out _ _ _ X2.out).mono ?_
        rintro e w2 ⟨a2, c2, rfl, hs2, h52, hb2⟩
        have S2 := keep hs2
        have I2 := keep h52
        have B2 := keep hb2
        clear hs2 h52 hb2
        go_wp2
        exact ⟨_, _, a2, c2, (by simp only [sets, Act.put, List.setIfInBounds_toArray, List.set_cons_zero, List.set_cons_succ]; all_goals rfl), S2.out, I2.out, B2.out⟩
  · rintro a' w2 ⟨v19, v20, a2, c2, rfl, hs2, h52, hb2⟩
    simp only [sets, Act.put, List.setIfInBounds_toArray, List.set_cons_zero, List.set_cons_succ]
    have I2 : Hid (RdT w w.heap.size R 0 [] (.slice none 0 0) a2 R.length c2 w2) := ⟨(hb2.block _ (Array.getElem?_eq_some_iff.1 g1.out).1).trans g1.out, World.ownsRow_nil _ _ _ _, (fun p hp => by cases hp), (fun p hp => by cases hp), List.nodup_nil, rfl, hs2, b1.out.trans (hb2.mono b1.out.size)⟩
    clear hs2 h52 hb2
    go_upto_region 3 with fail
    obtain ⟨K, hK⟩ : ∃ K, Tq.pn b = K := ⟨_, rfl⟩
    rw [hK] at HPN HPC HFO
    have hK8 : K ≤ 8 := by have := HPN.out; omega
    clear hK
    refine region_share (fun a a' w' => a' = sets a [(25, .int .i64 (N : Int)), (26, .int .i64 (K : Int)), (27, .int .i64 0)] ∧ w' = w2) ?_ ?_
    · have hKN := HPN.out
      by_cases h8 : 8 < N
      · have h8i : (8 : Int) < (N : Int) := by omega
        obtain rfl : K = 8 := by omega
        clear hKN
        go_wp2
        exact ⟨(by simp only [sets, Act.put, List.setIfInBounds_toArray, List.set_cons_zero, List.set_cons_succ]; all_goals rfl), rfl⟩
      · have h8i : ¬ (8 : Int) < (N : Int) := by omega
        obtain rfl : K = N := by omega
        clear hKN
        go_wp2
        exact ⟨(by simp only [sets, Act.put, List.setIfInBounds_toArray, List.set_cons_zero, List.set_cons_succ]; all_goals rfl), rfl⟩
    · rintro a' w' ⟨rfl, rfl⟩
      simp only [sets, Act.put, List.setIfInBounds_toArray, List.set_cons_zero, List.set_cons_succ]
      go_wp2
      go_loopw [5, 27] (fun vr i wr => ∃ (k : Nat) (ps : List PE) (v : Value) (ra : Option Addr) (M rc : Nat), k ≤ K ∧ vr = .slice ra M rc ∧ i = .int .i64 (k : Int) ∧ Hid (RdT w w.heap.size R k ps v ra M rc wr)) (fun _ i _ => K - (intOf i).toNat)
      case atStart => exact ⟨0, [], _, a2, R.length, c2, Nat.zero_le _, rfl, rfl, I2.out⟩
      case round =>
        obtain ⟨k, ps, v, ra, M, rc, hk, rfl, rfl, hI⟩ := hrel
        clear I2
        have hM := hI.out.rest.len
        have hML : M ≤ 140737488355328 := by have := Tq.readR_len k R; have := RL.out; omega
        by_cases hkK : k < K
        · have ll : (k : Int) < (K : Int) := by omega
          have HI := keep hI.out
          have TT := keep (takeText_own ra M rc (Tq.readR k R) (M : Int) wr hML hI.out.rest)
          have hpl := hI.out.len
          have TAB := keep hI.out.tab
          have ROW := keep hI.out.row
          have BEL := keep hI.out.bel
          obtain ⟨S, hS⟩ : ∃ S, Bq.tS (Tq.readR k R) (M : Int) = S := ⟨_, rfl⟩
          obtain ⟨Z, hZ⟩ : ∃ Z, Bq.tR (Tq.readR k R) (M : Int) = Z := ⟨_, rfl⟩
          rw [hS, hZ] at TT
          have H_S : Hid (S = Bq.tS (Tq.readR k R) ((Tq.readR k R).length : Nat)) := by show _ = _; rw [hM]; exact hS.symm
          have H_Z : Hid (Z = Bq.tR (Tq.readR k R) ((Tq.readR k R).length : Nat)) := by show _ = _; rw [hM]; exact hZ.symm
          clear hI hM hZ hS
          unfold TookS at TT
          go_wp2_with fail
          refine TT.out.mono ?_
          rintro e w4 ⟨a4, c4, E4, rfl, hs4, h54, hb4⟩
          have cv := conv_str S S.length rfl w4
          obtain ⟨kS, hkS⟩ : ∃ kS, grownCap w4 S.length 0 5 = kS := ⟨_, rfl⟩
          have S5 : Hid (Src (Lib.bytesWorld w4 5 ⟨S.toArray⟩) (some ⟨w4.heap.size, 0, none⟩) S.length kS S) := by rw [← hkS]; exact Src.converted w4 S S.length rfl
          have b5 := keep (below_bytesWorld w4 ⟨S.toArray⟩)
          have n5 := keep (in5_conv w4 ⟨S.toArray⟩)
          rw [hkS] at cv
          obtain ⟨W5, hW5⟩ : ∃ W5, Lib.bytesWorld w4 5 ⟨S.toArray⟩ = W5 := ⟨_, rfl⟩
          rw [hW5] at cv S5 b5 n5
          clear hkS hW5
          have HS4 : Hid (Src w4 a4 (Bq.tR (Tq.readR k R) ((Tq.readR k R).length : Nat)).length c4 (Bq.tR (Tq.readR k R) ((Tq.readR k R).length : Nat))) := by rw [← H_Z.out]; exact hs4
          have H54 := keep h54
          have HB4 := keep hb4
          have c4' : w4.cell? ⟨w.heap.size, 0, none⟩ = some v := below_cell hb4 (cell_of_row _ _ _ _ _ _ TAB.out)
          have B5 := keep (hb4.trans (b5.out.mono hb4.size))
          have c5 : W5.cell? ⟨w.heap.size, 0, none⟩ = some v := below_cell B5.out (cell_of_row _ _ _ _ _ _ TAB.out)
          clear hs4 h54 hb4 TT
          obtain ⟨W7, hW7⟩ : ∃ W7 : World, ((W5.alloc (Obj.cells #[.int .u32 0, .int .i32 0, .int .u32 0, .slice (some ⟨w4.heap.size, 0, none⟩) S.length kS, .slice none 0 0] 97)).alloc (Obj.cells #[.pointer (some ⟨W5.heap.size, 0, none⟩)] 63)) = W7 := ⟨_, rfl⟩
          have b7 : Hid (Below wr.heap.size wr W7) := by rw [← hW7]; exact (B5.out.alloc B5.out.size _).alloc (by have := B5.out.size; simp; omega) _
          have R7 := keep (own_block ROW.out (fun g hg => b7.out.block g (own_size ROW.out hg)))
          have rc7 : Hid (∀ j u, (ptrKind.vals W5.heap.size)[j]? = some u → W7.cell? ((⟨W5.heap.size + 1, 0, none⟩ : Addr).add j) = some u) := by
            rw [← hW7]
            have := rec_cells (k := ptrKind) (W5.alloc (Obj.cells #[.int .u32 0, .int .i32 0, .int .u32 0, .slice (some ⟨w4.heap.size, 0, none⟩) S.length kS, .slice none 0 0] 97)) 63 W5.heap.size
            rw [World.size_alloc] at this
            exact this
          have HKW : Hid (w.heap.size ≤ W7.heap.size) := Nat.le_trans BEL.out.size b7.out.size
          have KP := keep hpl
          clear hpl
          have HG7 := keep hW7
          go_wp2_with (at_builtin; go_loud (refine wpList_append_rec ptrKind_ok rfl _ _ 60 63 rfl w.heap.size i0 _ 8 Try.underlying60 hi0 hz0 hz1 hz2 rfl v ps.length _ rfl R7.out _ 1 W5.heap.size rfl rc7.out (by have := KP.out; unfold maxLen; omega) (by have := KP.out; omega) HKW.out ?_); intro v8 w8 ho8 hg8; obtain ⟨g8, k8, rfl⟩ := own_form ho8; have N8 := keep (RdT.next HI.out (Nat.le_refl _) HB4.out H_S.out b5.out S5.out n5.out HS4.out H54.out ho8 (by rw [HG7.out]; exact hg8)); have t8 := N8.out.1; have d8 : w8.cell? ⟨w.heap.size, 0, none⟩ = some v := cell_of_row _ _ _ _ _ _ t8; have f8 : w8.frozen? ⟨w.heap.size, 0, none⟩ = false := (by simp [World.frozen?, t8]); clear ho8 hg8 t8)
          go_roundw
          case rel => exact ⟨k + 1, _, _, _, _, _, by omega, by rw [H_Z.out], by first | rfl | go_num, N8.out.2⟩
          case measure => simp [intOf]; omega
        · obtain rfl : k = K := by omega
          have ll : ¬ (k : Int) < (k : Int) := by omega
          have HI := keep hI.out
          have TT := keep (takeText_own ra M rc (Tq.readR k R) (M : Int) wr hML hI.out.rest)
          have TAB := keep hI.out.tab
          have H_S : Hid (Tq.filtOf b = Bq.tS (Tq.readR k R) (M : Int)) := by show _ = _; rw [HFO.out, hM]
          rw [← H_S.out] at TT
          have H_R : Hid (ps.map (·.raw) = Tq.pieces b) := by show _ = _; rw [HPC.out]; exact hI.out.raws
          obtain ⟨S, hS⟩ : ∃ S, Tq.filtOf b = S := ⟨_, rfl⟩
          obtain ⟨Z, hZ⟩ : ∃ Z, Bq.tR (Tq.readR k R) (M : Int) = Z := ⟨_, rfl⟩
          rw [hS, hZ] at TT
          have HSF := keep hS
          clear hI hM hZ hS
          unfold TookS at TT
          go_wp2_with fail
          refine TT.out.mono ?_
          rintro e w4 ⟨a4, c4, E4, rfl, _, _, hb4⟩
          have cv := conv_str S S.length rfl w4
          obtain ⟨kS, hkS⟩ : ∃ kS, grownCap w4 S.length 0 5 = kS := ⟨_, rfl⟩
          have S5 : Hid (Src (Lib.bytesWorld w4 5 ⟨S.toArray⟩) (some ⟨w4.heap.size, 0, none⟩) S.length kS S) := by rw [← hkS]; exact Src.converted w4 S S.length rfl
          have b5 := keep (below_bytesWorld w4 ⟨S.toArray⟩)
          have n5 := keep (in5_conv w4 ⟨S.toArray⟩)
          rw [hkS] at cv
          obtain ⟨W5, hW5⟩ : ∃ W5, Lib.bytesWorld w4 5 ⟨S.toArray⟩ = W5 := ⟨_, rfl⟩
          rw [hW5] at cv S5 b5 n5
          clear hkS hW5
          have L5 := keep (HI.out.last (Nat.le_refl _) (hb4.trans (b5.out.mono hb4.size)) S5.out n5.out)
          have t5 := L5.out.1
          have d5 : W5.cell? ⟨w.heap.size, 1, none⟩ = some (.slice none 0 0) := cell_of_row _ _ _ _ _ _ t5
          have f5 : W5.frozen? ⟨w.heap.size, 1, none⟩ = false := by simp [World.frozen?, t5]
          clear t5 hb4 TT
          go_wp2
          go_ret
          exact ⟨_, rfl, ps, by rw [HSF.out]; exact L5.out.2.1, H_R.out, L5.out.2.2⟩
end Go.Proofs.Ytjblicgbdecbcaa
