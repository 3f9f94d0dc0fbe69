/- What a save leaves on a disk with power and no cut ahead; more behind it, a crash; no walk. -/
/- CatSure's walk. -/
import Derived.Test.YtgkchkdjcebnaaaGreatDoorJoinFg
import Derived.Test.YtgkchkdjcebnaaaGreatDoorJoinOi
import Derived.Test.YtgkchkdjcebnaaaGreatDoorJoinFn
import Derived.BigQuiet
namespace Go.Proofs.YtgkchkdjcebnaaaGreatDoor
open Go.RowKit
open Dk (File Disk)
open Ed (Ver)

/-- A disk with power, and no cut ahead. -/
def Lit (d : Disk) : Prop := d.dark = false ∧ d.left = none
theorem Lit.write {d : Disk} (h : Lit d) (l : List File) : (Dk.write d l).1 = 0 ∧ Lit (Dk.write d l).2 := by
  obtain ⟨c, fs, dn, lf, dk⟩ := d
  obtain ⟨h1, h2⟩ := h
  simp only at h1 h2
  subst h1 h2
  exact ⟨rfl, rfl, rfl⟩
theorem Lit.raw {d : Disk} (h : Lit d) (k : Nat) (a b t : List UInt8) : Lit (Dk.raw d k a b t).2 := by
  rcases Dk.raw_cases d k a b t with ⟨e, _, hx⟩ | ⟨m, _, hx⟩
  · rw [hx]; exact h
  · rw [hx]; exact (h.write m).2
theorem Lit.remove {d : Disk} (h : Lit d) (g : Dk.Good d) {n : List UInt8} (hn : (Dk.look d.files n).isSome = true) : (Dk.raw d 3 n [] []).1 = 0 := by
  obtain ⟨f, hf⟩ := Option.isSome_iff_exists.1 hn
  have hna : Dk.named n = true := by
    have := g.names f (Dk.look_some hf).1
    rwa [(Dk.look_some hf).2] at this
  have hp : Dk.plan d.cap d.files d.dark 3 n [] [] = .inr (Dk.drop d.files n) := by
    show Dk.guard d.dark (Dk.named n) (Dk.planRemove d.files n) = _
    unfold Dk.guard Dk.planRemove
    rw [hna, h.1, hf]
    rfl
  unfold Dk.raw
  rw [hp]
  exact (h.write _).1
theorem rising_nodup : ∀ {l : List File}, Dk.Rising l → (l.map (·.name)).Nodup
  | [], _ => List.nodup_nil
  | f :: t, h => by
    rw [List.map_cons, List.nodup_cons]
    refine ⟨fun hm => ?_, rising_nodup h.2⟩
    obtain ⟨g, hg, e⟩ := List.mem_map.1 hm
    have h1 := h.1 g hg
    rw [e, less_irrefl] at h1
    cases h1
theorem Lit.rmv (p : List UInt8 → Bool) : ∀ (ns : List (List UInt8)) {d : Disk}, Lit d → Dk.Good d → ns.Nodup → (∀ n ∈ ns, (Dk.look d.files n).isSome = true) → (Go.Proofs.YtgkchkdjcebnaaaGreatDoor.rmv p d ns).1 = 0 ∧ Lit (Go.Proofs.YtgkchkdjcebnaaaGreatDoor.rmv p d ns).2
  | [], d, h, _, _, _ => ⟨rfl, h⟩
  | n :: t, d, h, g, hnd, hn => by
    rw [List.nodup_cons] at hnd
    simp only [Go.Proofs.YtgkchkdjcebnaaaGreatDoor.rmv]
    split
    · have h0 := h.remove g (hn n List.mem_cons_self)
      rw [if_pos h0]
      refine Lit.rmv p t (h.raw 3 n [] []) (Dk.raw_good 3 n [] [] g) hnd.2 (fun m hm => ?_)
      rw [(raw_far g 3 n [] []).look m (fun e => e.elim (fun e => hnd.1 (e ▸ hm)) (fun e => by cases e.1))]
      exact hn m (List.mem_cons_of_mem _ hm)
    · exact Lit.rmv p t h g hnd.2 (fun m hm => hn m (List.mem_cons_of_mem _ hm))
theorem Lit.rmvAll (p : List UInt8 → Bool) {d : Disk} (h : Lit d) (g : Dk.Good d) : (Go.Proofs.YtgkchkdjcebnaaaGreatDoor.rmvAll p d).1 = 0 ∧ Lit (Go.Proofs.YtgkchkdjcebnaaaGreatDoor.rmvAll p d).2 :=
  h.rmv p _ g (rising_nodup g.rising) (fun n hn => by
    obtain ⟨f, hf, rfl⟩ := List.mem_map.1 hn
    rw [Dk.look_mem g.rising hf]
    rfl)
theorem Lit.adds (N : List UInt8) : ∀ (ts : List (List UInt8)) {d : Disk}, Lit d → Lit (Go.Proofs.YtgkchkdjcebnaaaGreatDoor.adds d N ts).2
  | [], _, h => h
  | t :: ts, d, h => by
    simp only [Go.Proofs.YtgkchkdjcebnaaaGreatDoor.adds]
    split
    · exact Lit.adds N ts (h.raw 0 N [] t)
    · exact h.raw 0 N [] t
theorem Lit.walGo (N fr : List UInt8) {d : Disk} (h : Lit d) : Lit (Go.Proofs.YtgkchkdjcebnaaaGreatDoor.walGo d N fr).2 := by
  unfold Go.Proofs.YtgkchkdjcebnaaaGreatDoor.walGo
  split
  · exact (h.adds N _).raw 1 N [] []
  · exact h.adds N _
theorem Lit.wrt : ∀ (fs : List (List UInt8 × List UInt8)) {d : Disk}, Lit d → Lit (Go.Proofs.YtgkchkdjcebnaaaGreatDoor.wrt d fs).2
  | [], _, h => h
  | f :: t, d, h => by
    simp only [Go.Proofs.YtgkchkdjcebnaaaGreatDoor.wrt]
    split
    · exact Lit.wrt t (h.walGo f.1 f.2)
    · exact h.walGo f.1 f.2
/-- With power, what was refused leaves the elder version as it was. -/
theorem catGo_lit {d : Disk} {u v : Ver} (g : Dk.Good d) (hl : Lit d) (hs : Sure d u) (hne : u.gen ≠ v.gen) (hc : Ed.chk v = true) : Lit (catGo d v).2 ∧ ((catGo d v).1 ≠ 0 → Sure (catGo d v).2 u) := by
  have hu : u.gen ≠ 0 → isSeg u.gen = true := fun h => by
    rcases hs with ⟨h1, _⟩ | ⟨h1, _⟩
    · exact absurd (by rw [h1]; rfl) h
    · exact chk_seg h1
  have hmm : u.gen ≠ 0 → manN u.gen ≠ manN v.gen := fun h e => hne (manN_inj (hu h) (chk_seg hc) e)
  unfold catGo
  have h1 := rmvAll_far (fun n => n == tmpN || n == manN v.gen) g
  have l1 := hl.rmvAll (fun n => n == tmpN || n == manN v.gen) g
  have s1 : Sure (rmvAll (fun n => n == tmpN || n == manN v.gen) d).2 u := hs.far h1 (fun e => by
    simp only [Bool.or_eq_true, beq_iff_eq] at e
    rcases e with e | e
    · exact cur_tmp e
    · exact manN_cur _ e.symm) (fun h e => by
    simp only [Bool.or_eq_true, beq_iff_eq] at e
    rcases e with e | e
    · exact manN_tmp _ e
    · exact hmm h e)
  rw [if_pos l1.1]
  have h2 := wrt_far (v := v) h1.good
  have l2 := l1.2.wrt (verF v)
  have s2 : Sure (wrt (rmvAll (fun n => n == tmpN || n == manN v.gen) d).2 (verF v)).2 u := s1.far h2 (fun e => by
    rcases e with e | e
    · exact manN_cur _ e.symm
    · exact cur_tmp e) (fun h e => by
    rcases e with e | e
    · exact hmm h e
    · exact manN_tmp _ e)
  split
  · have h3 := raw_far h2.good 2 tmpN curN []
    have l3 := l2.raw 2 tmpN curN []
    split
    · have l4 := l3.rmvAll (fun n => isMan n && !(n == manN v.gen)) h3.good
      exact ⟨l4.2, fun h => absurd l4.1 h⟩
    · rename_i a3
      refine ⟨l3, fun _ => ?_⟩
      have hf : (Dk.raw (wrt (rmvAll (fun n => n == tmpN || n == manN v.gen) d).2 (verF v)).2 2 tmpN curN []).2.files = (wrt (rmvAll (fun n => n == tmpN || n == manN v.gen) d).2 (verF v)).2.files := Dk.raw_refused a3
      unfold Sure at s2 ⊢
      rw [hf]
      exact s2
  · exact ⟨l2, fun _ => s2⟩
theorem catSave_lit {d : Disk} {u : Ver} (v : Ver) (g : Dk.Good d) (hl : Lit d) (hs : Sure d u) (hne : u.gen ≠ v.gen) : Lit (catSave d v).2 ∧ ((catSave d v).1 = 0 → Sure (catSave d v).2 v) ∧ ((catSave d v).1 ≠ 0 → Sure (catSave d v).2 u) := by
  have key : Lit (catSave d v).2 ∧ ((catSave d v).1 ≠ 0 → Sure (catSave d v).2 u) := by
    unfold catSave
    split
    · exact ⟨hl, fun _ => hs⟩
    · rename_i a1
      split
      · exact ⟨hl, fun _ => hs⟩
      · split
        · exact ⟨hl, fun _ => hs⟩
        · have hc : Ed.chk v = true := by
            cases hx : Ed.chk v with
            | true => rfl
            | false => exact absurd (.inl hx) a1
          exact catGo_lit g hl hs hne hc
  exact ⟨key.1, fun h => (catSave_ok g h).2.2, key.2⟩
/-- More behind "cur~". -/
theorem Sure.more {d : Disk} {v : Ver} (g : Dk.Good d) (h : Sure d v) (x t : List UInt8) : Sure (Dk.raw d 0 tmpN x t).2 v :=
  h.far (raw_far g 0 tmpN x t) (fun e => e.elim cur_tmp (fun e => by cases e.1)) (fun _ e => e.elim (manN_tmp _) (fun e => by cases e.1))
end Go.Proofs.YtgkchkdjcebnaaaGreatDoor
namespace Go.Proofs.YtgkchkdjcebnaaaGreatDoor
open Go.RowKit
open Dk (File Disk)

/-- A version's box; a version stored in it. -/
def boxV (W : World) (q : Nat) (x : VV) : Prop := W.heap[q]? = some (.cells #[.int .i64 x.gen, .int .i64 x.next, .int .i64 x.log, .int .i64 x.seq, .slice x.p x.n x.c] 34)
def setV (W : World) (q : Nat) (y : VV) : World := ((((W.setCell ⟨q, 0, none⟩ (.int .i64 y.gen)).setCell ⟨q, 1, none⟩ (.int .i64 y.next)).setCell ⟨q, 2, none⟩ (.int .i64 y.log)).setCell ⟨q, 3, none⟩ (.int .i64 y.seq)).setCell ⟨q, 4, none⟩ (.slice y.p y.n y.c)
theorem boxV.put {W : World} {q : Nat} {x : VV} (h : boxV W q x) (y : VV) : boxV (setV W q y) q y := by
  have h1 := set_row (set_row (set_row (set_row (set_row h 0 (.int .i64 y.gen)) 1 (.int .i64 y.next)) 2 (.int .i64 y.log)) 3 (.int .i64 y.seq)) 4 (.slice y.p y.n y.c)
  unfold boxV setV
  rw [h1]
  simp
theorem boxV.cells {W : World} {q : Nat} {x : VV} (h : boxV W q x) : W.cell? ⟨q, 0, none⟩ = some (.int .i64 x.gen) ∧ W.cell? ⟨q, 1, none⟩ = some (.int .i64 x.next) ∧ W.cell? ⟨q, 2, none⟩ = some (.int .i64 x.log) ∧ W.cell? ⟨q, 3, none⟩ = some (.int .i64 x.seq) ∧ W.cell? ⟨q, 4, none⟩ = some (.slice x.p x.n x.c) :=
  ⟨cell_of_row _ _ _ _ _ _ h, cell_of_row _ _ _ _ _ _ h, cell_of_row _ _ _ _ _ _ h, cell_of_row _ _ _ _ _ _ h, cell_of_row _ _ _ _ _ _ h⟩
theorem setV_kept (W : World) (q : Nat) (y : VV) : Kept (fun g => g = q) W (setV W q y) :=
  (((((Kept.refl (fun g => g = q) W).setCell (p := ⟨q, 0, none⟩) (.inl rfl) _).setCell (p := ⟨q, 1, none⟩) (.inl rfl) _).setCell (p := ⟨q, 2, none⟩) (.inl rfl) _).setCell (p := ⟨q, 3, none⟩) (.inl rfl) _).setCell (p := ⟨q, 4, none⟩) (.inl rfl) _
theorem setV_below {B : Nat} {w W : World} (h : Below B w W) {q : Nat} (hq : B ≤ q) (y : VV) : Below B w (setV W q y) :=
  ((((h.setCell (p := ⟨q, 0, none⟩) hq _).setCell (p := ⟨q, 1, none⟩) hq _).setCell (p := ⟨q, 2, none⟩) hq _).setCell (p := ⟨q, 3, none⟩) hq _).setCell (p := ⟨q, 4, none⟩) hq _
/-- Between two saves: the box holds x; V counts, and is sure. -/
structure SuI (w : World) (b q m : Nat) (W : World) (d : Disk) (x : VV) (V : Ed.Ver) : Prop where
  disk : ∃ S, DW w S W b d ∧ ¬ Go.Proofs.YtgkchkdjcebnaaaGreatDoor.mine S b q
  box : boxV W q x
  low : w.heap.size ≤ q
  held : ∀ W', Below w.heap.size w W' → VV.held W' x
  len : x.n ≤ 100
  sure : Sure d V
  lit : Lit d
  cap : d.cap = 1099511627776
  done : d.done ≤ m
theorem SuI.next {w : World} {b q m : Nat} {W W' : World} {d : Disk} {x : VV} {V : Ed.Ver} (h : SuI w b q m W d x V) (hb : Below W.heap.size W W') : SuI w b q m W' d x V := by
  obtain ⟨S, h1, h2⟩ := h.disk
  exact ⟨⟨S, h1.next hb, h2⟩, below_row h.box hb, h.low, h.held, h.len, h.sure, h.lit, h.cap, h.done⟩
theorem SuI.up {w : World} {b q m m' : Nat} {W : World} {d : Disk} {x : VV} {V : Ed.Ver} (h : SuI w b q m W d x V) (hm : m ≤ m') : SuI w b q m' W d x V := ⟨h.disk, h.box, h.low, h.held, h.len, h.sure, h.lit, h.cap, Nat.le_trans h.done hm⟩
theorem SuI.bel {w : World} {b q m : Nat} {W : World} {d : Disk} {x : VV} {V : Ed.Ver} (h : SuI w b q m W d x V) : Below w.heap.size w W := by
  obtain ⟨S, h1, _⟩ := h.disk
  exact h1.bel
theorem SuI.then {w : World} {b q m m' : Nat} {W W' : World} {d d' : Disk} {x : VV} {V V' : Ed.Ver} (h : SuI w b q m W d x V) {S S' : Nat → Prop} (h1 : DW w S W b d) (h2 : ¬ Go.Proofs.YtgkchkdjcebnaaaGreatDoor.mine S b q) (hO : Own (Go.Proofs.YtgkchkdjcebnaaaGreatDoor.mine S b) W S' W' b d') (hs : Sure d' V') (hl : Lit d') (hc : d'.cap = d.cap) (hd : d'.done ≤ m') : SuI w b q m' W' d' x V' := by
  have hlt := (Array.getElem?_eq_some_iff.1 h.box).1
  refine ⟨⟨S', h1.then hO, fun e => (hO.mines q e).1.elim h2 (fun e => by omega)⟩, (hO.bel.block q hlt h2).trans h.box, h.low, h.held, h.len, hs, hl, hc.trans h.cap, hd⟩
theorem SuI.put {w : World} {b q m : Nat} {W : World} {d : Disk} {x : VV} {V : Ed.Ver} (h : SuI w b q m W d x V) (y : VV) (hy : ∀ W', Below w.heap.size w W' → VV.held W' y) (hn : y.n ≤ 100) : SuI w b q m (setV W q y) d y V := by
  obtain ⟨S, h1, h2⟩ := h.disk
  refine ⟨⟨S, ⟨h1.mem.kept (setV_kept W q y) (fun g hg e => h2 (by rw [← e]; exact .inl hg)) (fun e => h2 (.inr e.symm)), h1.news, setV_below h1.bel h.low y, h1.gl⟩, h2⟩, h.box.put y, h.low, hy, hn, h.sure, h.lit, h.cap, h.done⟩
/-- What a save leaves. -/
theorem SuI.save {w : World} {b q m : Nat} {W W' : World} {d : Disk} {x : VV} {V : Ed.Ver} (h : SuI w b q m W d x x.v) {S S' : Nat → Prop} (h1 : DW w S W b d) (h2 : ¬ Go.Proofs.YtgkchkdjcebnaaaGreatDoor.mine S b q) (hne : x.gen ≠ V.gen) (hO : Own (Go.Proofs.YtgkchkdjcebnaaaGreatDoor.mine S b) W S' W' b (catSave d V).2) :
    ((catSave d V).1 = 0 → SuI w b q (m + 2299999999000) W' (catSave d V).2 x V) ∧ ((catSave d V).1 ≠ 0 → SuI w b q (m + 2299999999000) W' (catSave d V).2 x x.v) := by
  have hf := catSave_far V h1.mem.good
  obtain ⟨l1, l2, l3⟩ := catSave_lit V h1.mem.good h.lit h.sure hne
  have hd : (catSave d V).2.done ≤ m + 2299999999000 := by
    have h3 := hf.done
    rw [h.cap] at h3
    have := h.done
    omega
  exact ⟨fun e => h.then h1 h2 hO (l2 e) l1 hf.cap hd, fun e => h.then h1 h2 hO (l3 e) l1 hf.cap hd⟩
/-- What an append and a crash leave. -/
theorem SuI.more {w : World} {b q m : Nat} {W W' : World} {d : Disk} {x : VV} {V : Ed.Ver} (h : SuI w b q m W d x V) {S S' : Nat → Prop} (h1 : DW w S W b d) (h2 : ¬ Go.Proofs.YtgkchkdjcebnaaaGreatDoor.mine S b q) {y t : List UInt8} (hO : Own (Go.Proofs.YtgkchkdjcebnaaaGreatDoor.mine S b) W S' W' b (Dk.raw d 0 tmpN y t).2) : SuI w b q (m + 1) W' (Dk.raw d 0 tmpN y t).2 x V :=
  h.then h1 h2 hO (h.sure.more h1.mem.good y t) (h.lit.raw 0 tmpN y t) (raw_cap d 0 tmpN y t) (Nat.le_trans (raw_done d 0 tmpN y t) (Nat.succ_le_succ h.done))
theorem SuI.crash {w : World} {b q m : Nat} {W W' : World} {d : Disk} {x : VV} {V : Ed.Ver} (h : SuI w b q m W d x V) {S S' : Nat → Prop} (h1 : DW w S W b d) (h2 : ¬ Go.Proofs.YtgkchkdjcebnaaaGreatDoor.mine S b q) {ps : List Nat} (hO : Own (Go.Proofs.YtgkchkdjcebnaaaGreatDoor.mine S b) W S' W' b (Dk.crash d ps)) : SuI w b q m W' (Dk.crash d ps) x V :=
  h.then h1 h2 hO (h.sure.crash ps) ⟨rfl, rfl⟩ rfl h.done
set_option maxHeartbeats 8000000 in
set_option maxRecDepth 100000 in
theorem sure_walk (ao : Option Addr) (n c : Nat) (es : List VV) (pa : Option Addr) (pn pc : Nat) (zs : List Int) (ba : Option Addr) (bn bc : Nat) (bs : List UInt8) (w : World) (hs : RSrc verK w ao n c es) (hp : RSrc intKind w pa pn pc zs) (hpc : pc ≤ maxLen) (hb : Src w ba bn bc bs) (_hbc : bc ≤ maxLen) (hg : Gl w) :
    Calls Tryz.prog 5 #[.slice ao n c, .slice pa pn pc, .slice ba bn bc] w fun e w' => e = .returned (.bool true) ∧ Below w.heap.size w w' := by
  have SRC := keep hs
  have HL := keep hs.len
  have HG := keep hg
  have PK : Hid (∀ w', Below w.heap.size w w' → RSrc intKind w' pa pn pc zs) := fun w' h => hp.below intKind_ok h
  have MK : Hid (∀ w', Below w.heap.size w w' → Src w' ba bn bc bs) := fun w' h => hb.below h
  have ML := keep hb.len
  have PL : Hid (pn ≤ maxLen) := Nat.le_trans hp.cap hpc
  have AW := keep (awake11 w hg)
  clear hs hg hp hb hpc _hbc
  go_enter Tryz.func5, Tryz.ntmps5
  go_wp2_with fail
  refine AW.out.mono ?_
  rintro e w1 ⟨rfl, hb1⟩
  have B1 := keep hb1
  have NE := keep (new_mem 1099511627776 w1 (by omega))
  rw [show ((1099511627776 : Nat) : Int) = 1099511627776 from rfl] at NE
  clear hb1 AW
  go_wp2_with fail
  refine NE.out.mono ?_
  rintro e w2 ⟨b, S, rfl, hm, hsn, hb, hbel⟩
  have D2 : Hid (DW w S w2 b ⟨1099511627776, [], 0, none, false⟩) := ⟨hm, fun g hg => by
    rcases hg with hg | hg
    · exact Nat.le_trans B1.out.size (hsn g hg)
    · rw [hg]; exact Nat.le_trans B1.out.size hb, B1.out.trans (hbel.mono B1.out.size), HG.out⟩
  clear hm hsn hb hbel NE B1
  go_wp2
  obtain ⟨W3, hW3⟩ : ∃ W3, w2.alloc (.cells #[.int .i64 0, .int .i64 0, .int .i64 0, .int .i64 0, .slice none 0 0] 34) = W3 := ⟨_, rfl⟩
  have I3 : Hid (SuI w b w2.heap.size 0 W3 ⟨1099511627776, [], 0, none, false⟩ ⟨none, 0, 0, 0, 0, 0, 0, []⟩ (VV.v ⟨none, 0, 0, 0, 0, 0, 0, []⟩)) := by
    have b3 : Below w2.heap.size w2 W3 := by rw [← hW3]; exact (Below.refl _ _).alloc (Nat.le_refl _) _
    refine ⟨⟨S, D2.out.next b3, fun e => ?_⟩, ?_, D2.out.bel.size, fun W' _ => RSrc.empty (fun _ => rfl), by decide, .inl ⟨rfl, rfl⟩, ⟨rfl, rfl⟩, rfl, Nat.zero_le _⟩
    · have h1 := D2.out.mem.lt
      rcases e with e | e
      · have := h1.1 _ e; omega
      · have := h1.2.1; omega
    · show W3.heap[_]? = _
      rw [← hW3]
      exact heap_alloc_new w2 _
  try rw [hW3]
  obtain ⟨q, hq⟩ : ∃ q, w2.heap.size = q := ⟨_, rfl⟩
  rw [hq] at I3 ⊢
  clear D2 hW3 hq
  go_loopw [11] (fun i wr => ∃ (k : Nat) (D : Disk) (x : VV), k ≤ n ∧ k ≤ 10 ∧ i = .int .i64 (k : Int) ∧ Hid (SuI w b q (k * 2300000000000) wr D x x.v)) (fun i _ => 10 - (intOf i).toNat)
  case atStart => exact ⟨0, _, _, Nat.zero_le _, Nat.zero_le _, rfl, I3.out⟩
  case round =>
    clear I3
    obtain ⟨k, D, lx, hk, hk10, rfl, hI⟩ := hrel
    have BW := keep hI.out.bel
    by_cases hkn : k < n
    · have ll : (k : Int) < (n : Int) := by omega
      have l0 : (0 : Int) ≤ (k : Int) := by omega
      by_cases h10 : k < 10
      · have lt : (k : Int) < 10 := by omega
        obtain ⟨g, off, rfl, _, _⟩ := SRC.out.form verK_ok (by omega)
        obtain ⟨x, hx⟩ : ∃ x, es[k]? = some x := ⟨es[k]'(by rw [HL.out]; exact hkn), List.getElem?_eq_getElem _⟩
        have CE : Hid (∀ w', Below w.heap.size w w' → _) := fun w' hb => ver_cells (SRC.out.below verK_ok hb) hx
        have XH : Hid (∀ w', Below w.heap.size w w' → VV.held w' x) := fun w' hb => (SRC.out.below verK_ok hb).held x (List.mem_of_getElem? hx)
        clear hx
        obtain ⟨xp, xn, xc, xgen, xnext, xlog, xseq, xes⟩ := x
        simp only at CE
        obtain ⟨p0, p1, p2, p3, p4⟩ := CE.out wr BW.out
        obtain ⟨lp, ln, lc, lgen, lnext, llog, lseq, les⟩ := lx
        obtain ⟨c0, c1, c2, c3, c4⟩ := hI.out.box.cells
        simp only at c0 c1 c2 c3 c4
        by_cases hbig : 100 < xn
        · have hb1 : (100 : Int) < (xn : Int) := by omega
          have hb2 : decide ((100 : Int) < (xn : Int)) = true := decide_eq_true hb1
          have I1 := keep (hI.out.up (m' := (k + 1) * 2300000000000) (by omega))
          go_wp2_with fail
          go_quiet (fail)
          all_goals go_wp2
          all_goals go_roundw
          case rel => exact ⟨k + 1, D, _, by omega, by omega, by go_num, I1.out.next (below_drewN _ _ nq)⟩
          case measure => simp [intOf]; omega
        have hb1 : ¬ (100 : Int) < (xn : Int) := by omega
        have hb2 : decide ((100 : Int) < (xn : Int)) = false := decide_eq_false hb1
        by_cases hge : xgen = lgen
        · subst hge
          have I1 := keep (hI.out.up (m' := (k + 1) * 2300000000000) (by omega))
          go_wp2_with fail
          go_quiet (fail)
          all_goals go_wp2
          all_goals go_roundw
          case rel => exact ⟨k + 1, D, _, by omega, by omega, by go_num, I1.out.next (below_drewN _ _ nq)⟩
          case measure => simp [intOf]; omega
        have hge2 : (xgen == lgen) = false := beq_eq_false_iff_ne.2 hge
        have GE : Hid (¬ lgen = xgen) := fun e => hge e.symm
        go_wp2_with fail
        go_quiet (fail)
        obtain ⟨W9, hW9⟩ : ∃ W9, wr.drewN nq = W9 := ⟨_, rfl⟩
        have b9 : Hid (Below wr.heap.size wr W9) := by rw [← hW9]; exact below_drewN _ _ nq
        try rw [hW9]
        clear hW9
        have I3 := keep (hI.out.next b9.out)
        clear hI p0 p1 p2 p3 p4 c0 c1 c2 c3 c4 b9
        obtain ⟨p0, p1, p2, p3, p4⟩ := CE.out W9 I3.out.bel
        have MI := keep (mine11 ⟨xp, xn, xc, xgen, xnext, xlog, xseq, xes⟩ W9 (XH.out W9 I3.out.bel) (by show xn ≤ _; omega))
        have XN : Hid (xn ≤ 100) := by show _ ≤ _; omega
        obtain ⟨V, hV⟩ : ∃ V, VV.v ⟨xp, xn, xc, xgen, xnext, xlog, xseq, xes⟩ = V := ⟨_, rfl⟩
        have HV := keep hV
        have VG : Hid (lgen ≠ V.gen) := by show _ ≠ _; rw [← hV]; exact GE.out
        rw [hV] at MI
        unfold VV.val at MI
        simp only at MI
        clear hV
        try clear hb1
        try clear hb2
        try clear hge2
        clear hbig hge
        go_wp2_with fail
        refine MI.out.mono ?_
        rintro e w3 ⟨y, rfl, hy, hyv, hyn, hb3⟩
        have I4 := keep (I3.out.next hb3)
        obtain ⟨S3, hD3, hN3⟩ := I4.out.disk
        have D3 := keep hD3
        have N3 := keep hN3
        have SA := keep (save_own S3 w3 b D y hD3.mem hy (fun w' hk => HG.out.below (D3.out.gK hk)) (by have := I4.out.done; omega))
        rw [hyv] at SA
        obtain ⟨yp, yn, yc, ygen, ynext, ylog, yseq, yes⟩ := y
        unfold VV.val at SA
        simp only at SA ⊢
        clear hy hyv hyn hb3 hD3 hN3 MI p0 p1 p2 p3 p4
        go_wp2_with fail
        refine SA.out.mono ?_
        rintro e w4 ⟨S4, rfl, hO4⟩
        have SV := keep (I4.out.save D3.out N3.out VG.out hO4)
        obtain ⟨X, hX⟩ : ∃ X, catSave D V = X := ⟨_, rfl⟩
        rw [hX] at SV ⊢
        obtain ⟨E, D4⟩ := X
        simp only at SV ⊢
        clear hO4 SA hX
        by_cases hE : E = 0
        case neg =>
          have z1 : ((E : Int) == 0) = false := by rw [beq_eq_false_iff_ne]; omega
          have I5 := keep (SV.out.2 hE)
          clear hE SV
          by_cases hbl : bn ≤ 4096
          case pos =>
            have hbl5 : (bn : Int) ≤ 4096 := by omega
            obtain ⟨S5, hD5, hN5⟩ := I5.out.disk
            have DH5 := keep hD5
            have N5 := keep hN5
            have AP : Hid (Calls Tryz.prog 29 #[.pointer (some ⟨b, 0, none⟩), .string ⟨#[99, 117, 114, 126]⟩, .slice ba bn bc] w4 fun e w' => (∃ z : Int, e = .returned (.int .i64 z)) ∧ SuI w b q (k * 2300000000000 + 2299999999001) w' (Dk.raw D4 0 tmpN [] bs).2 ⟨lp, ln, lc, lgen, lnext, llog, lseq, les⟩ (VV.v ⟨lp, ln, lc, lgen, lnext, llog, lseq, les⟩)) := by
              have h := append_raw S5 b D4 tmpN bs ba bc w4 DH5.out.mem (by decide) (fun w' hk => by rw [ML.out]; exact MK.out w' (DH5.out.gK hk)) (by have := I5.out.done; omega) []
              rw [ML.out] at h
              refine h.mono ?_
              intro e w' hr
              obtain ⟨rfl, hO⟩ := (Own.start DH5.out.mem).raw hr
              exact ⟨⟨_, rfl⟩, I5.out.more DH5.out N5.out hO⟩
            clear hD5 hN5
            go_wp2_with fail
            refine AP.out.mono ?_
            rintro e w6 ⟨⟨z6, rfl⟩, hI6⟩
            obtain ⟨D6, hD6⟩ : ∃ D6, (Dk.raw D4 0 tmpN [] bs).2 = D6 := ⟨_, rfl⟩
            rw [hD6] at hI6
            have I6 := keep hI6
            clear hI6 hD6 AP
            obtain ⟨S6, hD6, hN6⟩ := I6.out.disk
            have DH6 := keep hD6
            have N6 := keep hN6
            have CR : Hid (Calls Tryz.prog 25 #[.pointer (some ⟨b, 0, none⟩), .slice pa pn pc] w6 fun e w' => e = .returned (.int .i64 0) ∧ SuI w b q (k * 2300000000000 + 2299999999001) w' (Dk.crash D6 (zs.map up)) ⟨lp, ln, lc, lgen, lnext, llog, lseq, les⟩ (VV.v ⟨lp, ln, lc, lgen, lnext, llog, lseq, les⟩)) := by
              refine (crash_mem S6 b D6 pa pn pc zs w6 DH6.out.mem (fun w' hk => PK.out w' (DH6.out.gK hk)) PL.out).mono ?_
              intro e w' hr
              obtain ⟨rfl, hO⟩ := (Own.start DH6.out.mem).raw hr
              exact ⟨rfl, I6.out.crash DH6.out N6.out hO⟩
            clear hD6 hN6
            go_wp2_with fail
            refine CR.out.mono ?_
            rintro e w7 ⟨rfl, hI7⟩
            have I7 := keep hI7
            have LO := keep hI7.sure.load
            obtain ⟨D7, hD7⟩ : ∃ D7, Dk.crash D6 (zs.map up) = D7 := ⟨_, rfl⟩
            rw [hD7] at I7 LO
            obtain ⟨S7, h7, _⟩ := I7.out.disk
            have LA := keep (catload_any S7 b D7 w7 h7.mem h7.gW)
            rw [LO.out] at LA
            unfold LoadA at LA
            clear hI7 hD7 h7 CR
            go_wp2_with fail
            refine LA.out.mono ?_
            rintro e w8 ⟨⟨z, rfl, hzf, hzv⟩, hb8⟩
            have ZH := keep hzf.held
            have ZV := keep hzv
            obtain ⟨zp, zn, zc, zgen, znext, zlog, zseq, zes⟩ := z
            have ZN : Hid (zn ≤ 100) := by
              have h1 : zes.length = zn := ZH.out.len
              have h2 : zes.map (·.m) = (VV.v ⟨lp, ln, lc, lgen, lnext, llog, lseq, les⟩).tabs := (VV.isV hzv).2.2.2.2
              have h3 : les.length = ln := (I7.out.held w7 I7.out.bel).len
              have h4 : ln ≤ 100 := I7.out.len
              have h5 := congrArg List.length h2
              rw [List.length_map] at h5
              have h6 : (VV.v ⟨lp, ln, lc, lgen, lnext, llog, lseq, les⟩).tabs.length = les.length := List.length_map _
              show _ ≤ _
              omega
            try unfold VV.val
            simp only
            obtain ⟨WA, hWA⟩ : ∃ WA, w8.alloc (.cells #[.int .i64 zgen, .int .i64 znext, .int .i64 zlog, .int .i64 zseq, .slice zp zn zc] 50) = WA := ⟨_, rfl⟩
            have bA : Hid (Below w8.heap.size w8 WA) := by rw [← hWA]; exact (Below.refl _ _).alloc (Nat.le_refl _) _
            have IA := keep (I7.out.next (hb8.trans (bA.out.mono hb8.size)))
            have gA : Hid (WA.heap[w8.heap.size]? = some (.cells #[.int .i64 zgen, .int .i64 znext, .int .i64 zlog, .int .i64 zseq, .slice zp zn zc] 50)) := by rw [← hWA]; exact heap_alloc_new w8 _
            have CZ : Hid (∀ w', Below WA.heap.size WA w' → w'.cell? ⟨w8.heap.size, 0, none⟩ = some (.int .i64 zgen) ∧ w'.cell? ⟨w8.heap.size, 1, none⟩ = some (.int .i64 znext) ∧ w'.cell? ⟨w8.heap.size, 2, none⟩ = some (.int .i64 zlog) ∧ w'.cell? ⟨w8.heap.size, 3, none⟩ = some (.int .i64 zseq) ∧ w'.cell? ⟨w8.heap.size, 4, none⟩ = some (.slice zp zn zc)) := fun w' hb => ⟨below_cell hb (cell_of_row _ _ _ _ _ _ gA.out), below_cell hb (cell_of_row _ _ _ _ _ _ gA.out), below_cell hb (cell_of_row _ _ _ _ _ _ gA.out), below_cell hb (cell_of_row _ _ _ _ _ _ gA.out), below_cell hb (cell_of_row _ _ _ _ _ _ gA.out)⟩
            have TH : Hid (∀ w', Below WA.heap.size WA w' → Calls Tryz.prog 27 #[.agg #[.int .i64 zgen, .int .i64 znext, .int .i64 zlog, .int .i64 zseq, .slice zp zn zc]] w' fun e w'' => ∃ u : VV, e = .returned u.val ∧ VV.held w'' u ∧ u.v = (VV.v ⟨lp, ln, lc, lgen, lnext, llog, lseq, les⟩) ∧ u.n = zn ∧ Below w'.heap.size w' w'') := fun w' hb => by
              have h := theirs11 ⟨zp, zn, zc, zgen, znext, zlog, zseq, zes⟩ w' (ZH.out.below (bA.out.trans (hb.mono bA.out.size))) (by show zn ≤ _; have := ZN.out; omega)
              rw [ZV.out] at h
              exact h
            have CX : Hid (∀ w', Below WA.heap.size WA w' → w'.cell? ⟨q, 0, none⟩ = some (.int .i64 lgen) ∧ w'.cell? ⟨q, 1, none⟩ = some (.int .i64 lnext) ∧ w'.cell? ⟨q, 2, none⟩ = some (.int .i64 llog) ∧ w'.cell? ⟨q, 3, none⟩ = some (.int .i64 lseq) ∧ w'.cell? ⟨q, 4, none⟩ = some (.slice lp ln lc)) := fun w' hb => (IA.out.next hb).box.cells
            have SM : Hid (∀ (u : VV) (w' : World), Below WA.heap.size WA w' → VV.held w' u → u.v = (VV.v ⟨lp, ln, lc, lgen, lnext, llog, lseq, les⟩) → u.n = zn → Calls Tryz.prog 26 #[u.val, .agg #[.int .i64 lgen, .int .i64 lnext, .int .i64 llog, .int .i64 lseq, .slice lp ln lc]] w' fun e w'' => e = .returned (.bool true) ∧ Below w'.heap.size w' w'') := fun u w' hb hu huv hun => rsame_yes u ⟨lp, ln, lc, lgen, lnext, llog, lseq, les⟩ w' hu ((IA.out.next hb).held w' (IA.out.next hb).bel) huv (by rw [hun]; have := ZN.out; omega)
            clear hzf hzv hb8 LA
            go_wp2_with fail
            refine wp_region_held_drew (S := fun w' => Below WA.heap.size WA w') (by kernel_rfl) ((Below.refl _ _).drew) (fun hHeld => ?_)
            refine takeH (i := 0) 79 (v := .int .i64 0) rfl rfl (by kernel_rfl) (by kernel_rfl) (by kernel_rfl) (fun _ _ _ h => h) (Or.inl ⟨by rfl, ?_⟩) (by assumption) ?_
            · intro w' hSw'
              go_simp
            simp only [Act.put, List.setIfInBounds_toArray, List.set_cons_zero, List.set_cons_succ]
            refine takeH (i := 1) 80 (v := .bool false) rfl rfl (by kernel_rfl) (by kernel_rfl) (by kernel_rfl) (fun _ _ _ h => h) (Or.inl ⟨by rfl, ?_⟩) (by assumption) ?_
            · intro w' hSw'
              go_simp
            simp only [Act.put, List.setIfInBounds_toArray, List.set_cons_zero, List.set_cons_succ]
            refine takeH (i := 2) 81 (v := .bool false) rfl rfl (by kernel_rfl) (by kernel_rfl) (by kernel_rfl) (fun _ _ _ h => h) (Or.inl ⟨by rfl, ?_⟩) (by assumption) ?_
            · intro w' hSw'
              go_simp
            simp only [Act.put, List.setIfInBounds_toArray, List.set_cons_zero, List.set_cons_succ]
            refine takeH (i := 3) 82 (v := .agg #[.int .i64 zgen, .int .i64 znext, .int .i64 zlog, .int .i64 zseq, .slice zp zn zc]) rfl rfl (by kernel_rfl) (by kernel_rfl) (by kernel_rfl) (fun _ _ _ h => h) (Or.inl ⟨by rfl, ?_⟩) (by assumption) ?_
            · intro w' hSw'
              obtain ⟨d0, d1, d2, d3, d4⟩ := CZ.out w' hSw'
              go_simp
            simp only [Act.put, List.setIfInBounds_toArray, List.set_cons_zero, List.set_cons_succ]
            refine takeH (i := 5) 84 (v := .agg #[.int .i64 lgen, .int .i64 lnext, .int .i64 llog, .int .i64 lseq, .slice lp ln lc]) rfl rfl (by kernel_rfl) (by kernel_rfl) (by kernel_rfl) (fun _ _ _ h => h) (Or.inl ⟨by rfl, ?_⟩) (by assumption) ?_
            · intro w' hSw'
              obtain ⟨d0, d1, d2, d3, d4⟩ := CX.out w' hSw'
              go_simp
            simp only [Act.put, List.setIfInBounds_toArray, List.set_cons_zero, List.set_cons_succ]
            refine wpAnyH_ready (rs := [4]) (by kernel_rfl) (by simp) ?_
            refine AllReadyH.cons rfl (fun K hK => ?_) AllReadyH.nil
            go_simp
            refine (TH.out _ (Below.refl _ _).drew).mono ?_
            rintro eA w10 ⟨u, rfl, hu, huv, hun, hb10⟩
            have b10 : Hid (Below WA.heap.size WA w10) := ((Below.refl _ _).drew).trans (hb10.mono (Nat.le_refl _))
            have UH := keep hu
            have UV := keep huv
            have UN := keep hun
            have SMU := keep (SM.out u w10 b10.out UH.out UV.out UN.out)
            clear hu huv hun hb10
            go_wp2_with fail
            refine hK.out _ _ (b10.out) (fun hH1 => ?_)
            clear hK K
            refine wpAnyH_ready (rs := [6]) (by kernel_rfl) (by simp) ?_
            refine AllReadyH.cons rfl (fun K hK => ?_) AllReadyH.nil
            go_simp
            refine (SMU.out).mono ?_
            rintro eB w11 ⟨rfl, hb11⟩
            have b11 : Hid (Below WA.heap.size WA w11) := b10.out.trans (hb11.mono b10.out.size)
            clear hb11
            go_wp2_with fail
            refine hK.out _ _ (b11.out) (fun hH2 => ?_)
            clear hK K
            refine takeH (i := 7) 86 (v := .bool false) rfl rfl (by kernel_rfl) (by kernel_rfl) (by kernel_rfl) (fun _ _ _ h => h) (Or.inl ⟨by rfl, ?_⟩) (by assumption) ?_
            · intro w' hSw'
              go_simp
            simp only [Act.put, List.setIfInBounds_toArray, List.set_cons_zero, List.set_cons_succ]
            refine takeH (i := 8) 87 (v := .bool false) rfl rfl (by kernel_rfl) (by kernel_rfl) (by kernel_rfl) (fun _ _ _ h => h) (Or.inl ⟨by rfl, ?_⟩) (by assumption) ?_
            · intro w' hSw'
              go_simp
            simp only [Act.put, List.setIfInBounds_toArray, List.set_cons_zero, List.set_cons_succ]
            refine wpAnyH_done (by kernel_rfl) ?_ _
            have IB := keep ((IA.out.next b11.out).up (m' := (k + 1) * 2300000000000) (by omega))
            go_wp2
            go_roundw
            case rel => exact ⟨k + 1, _, ⟨lp, ln, lc, lgen, lnext, llog, lseq, les⟩, by omega, by omega, by go_num, IB.out⟩
            case measure => simp [intOf]; omega
          case neg =>
            have hbl5 : ¬ (bn : Int) ≤ 4096 := by omega
            have I6 := keep (I5.out.up (m' := (k * 2300000000000 + 2299999999001)) (by omega))
            obtain ⟨D6, hD6⟩ : ∃ D6, D4 = D6 := ⟨_, rfl⟩
            rw [hD6] at I6
            clear hD6
            obtain ⟨S6, hD6, hN6⟩ := I6.out.disk
            have DH6 := keep hD6
            have N6 := keep hN6
            have CR : Hid (Calls Tryz.prog 25 #[.pointer (some ⟨b, 0, none⟩), .slice pa pn pc] w4 fun e w' => e = .returned (.int .i64 0) ∧ SuI w b q (k * 2300000000000 + 2299999999001) w' (Dk.crash D6 (zs.map up)) ⟨lp, ln, lc, lgen, lnext, llog, lseq, les⟩ (VV.v ⟨lp, ln, lc, lgen, lnext, llog, lseq, les⟩)) := by
              refine (crash_mem S6 b D6 pa pn pc zs w4 DH6.out.mem (fun w' hk => PK.out w' (DH6.out.gK hk)) PL.out).mono ?_
              intro e w' hr
              obtain ⟨rfl, hO⟩ := (Own.start DH6.out.mem).raw hr
              exact ⟨rfl, I6.out.crash DH6.out N6.out hO⟩
            clear hD6 hN6
            go_wp2_with fail
            refine CR.out.mono ?_
            rintro e w7 ⟨rfl, hI7⟩
            have I7 := keep hI7
            have LO := keep hI7.sure.load
            obtain ⟨D7, hD7⟩ : ∃ D7, Dk.crash D6 (zs.map up) = D7 := ⟨_, rfl⟩
            rw [hD7] at I7 LO
            obtain ⟨S7, h7, _⟩ := I7.out.disk
            have LA := keep (catload_any S7 b D7 w7 h7.mem h7.gW)
            rw [LO.out] at LA
            unfold LoadA at LA
            clear hI7 hD7 h7 CR
            go_wp2_with fail
            refine LA.out.mono ?_
            rintro e w8 ⟨⟨z, rfl, hzf, hzv⟩, hb8⟩
            have ZH := keep hzf.held
            have ZV := keep hzv
            obtain ⟨zp, zn, zc, zgen, znext, zlog, zseq, zes⟩ := z
            have ZN : Hid (zn ≤ 100) := by
              have h1 : zes.length = zn := ZH.out.len
              have h2 : zes.map (·.m) = (VV.v ⟨lp, ln, lc, lgen, lnext, llog, lseq, les⟩).tabs := (VV.isV hzv).2.2.2.2
              have h3 : les.length = ln := (I7.out.held w7 I7.out.bel).len
              have h4 : ln ≤ 100 := I7.out.len
              have h5 := congrArg List.length h2
              rw [List.length_map] at h5
              have h6 : (VV.v ⟨lp, ln, lc, lgen, lnext, llog, lseq, les⟩).tabs.length = les.length := List.length_map _
              show _ ≤ _
              omega
            try unfold VV.val
            simp only
            obtain ⟨WA, hWA⟩ : ∃ WA, w8.alloc (.cells #[.int .i64 zgen, .int .i64 znext, .int .i64 zlog, .int .i64 zseq, .slice zp zn zc] 50) = WA := ⟨_, rfl⟩
            have bA : Hid (Below w8.heap.size w8 WA) := by rw [← hWA]; exact (Below.refl _ _).alloc (Nat.le_refl _) _
            have IA := keep (I7.out.next (hb8.trans (bA.out.mono hb8.size)))
            have gA : Hid (WA.heap[w8.heap.size]? = some (.cells #[.int .i64 zgen, .int .i64 znext, .int .i64 zlog, .int .i64 zseq, .slice zp zn zc] 50)) := by rw [← hWA]; exact heap_alloc_new w8 _
            have CZ : Hid (∀ w', Below WA.heap.size WA w' → w'.cell? ⟨w8.heap.size, 0, none⟩ = some (.int .i64 zgen) ∧ w'.cell? ⟨w8.heap.size, 1, none⟩ = some (.int .i64 znext) ∧ w'.cell? ⟨w8.heap.size, 2, none⟩ = some (.int .i64 zlog) ∧ w'.cell? ⟨w8.heap.size, 3, none⟩ = some (.int .i64 zseq) ∧ w'.cell? ⟨w8.heap.size, 4, none⟩ = some (.slice zp zn zc)) := fun w' hb => ⟨below_cell hb (cell_of_row _ _ _ _ _ _ gA.out), below_cell hb (cell_of_row _ _ _ _ _ _ gA.out), below_cell hb (cell_of_row _ _ _ _ _ _ gA.out), below_cell hb (cell_of_row _ _ _ _ _ _ gA.out), below_cell hb (cell_of_row _ _ _ _ _ _ gA.out)⟩
            have TH : Hid (∀ w', Below WA.heap.size WA w' → Calls Tryz.prog 27 #[.agg #[.int .i64 zgen, .int .i64 znext, .int .i64 zlog, .int .i64 zseq, .slice zp zn zc]] w' fun e w'' => ∃ u : VV, e = .returned u.val ∧ VV.held w'' u ∧ u.v = (VV.v ⟨lp, ln, lc, lgen, lnext, llog, lseq, les⟩) ∧ u.n = zn ∧ Below w'.heap.size w' w'') := fun w' hb => by
              have h := theirs11 ⟨zp, zn, zc, zgen, znext, zlog, zseq, zes⟩ w' (ZH.out.below (bA.out.trans (hb.mono bA.out.size))) (by show zn ≤ _; have := ZN.out; omega)
              rw [ZV.out] at h
              exact h
            have CX : Hid (∀ w', Below WA.heap.size WA w' → w'.cell? ⟨q, 0, none⟩ = some (.int .i64 lgen) ∧ w'.cell? ⟨q, 1, none⟩ = some (.int .i64 lnext) ∧ w'.cell? ⟨q, 2, none⟩ = some (.int .i64 llog) ∧ w'.cell? ⟨q, 3, none⟩ = some (.int .i64 lseq) ∧ w'.cell? ⟨q, 4, none⟩ = some (.slice lp ln lc)) := fun w' hb => (IA.out.next hb).box.cells
            have SM : Hid (∀ (u : VV) (w' : World), Below WA.heap.size WA w' → VV.held w' u → u.v = (VV.v ⟨lp, ln, lc, lgen, lnext, llog, lseq, les⟩) → u.n = zn → Calls Tryz.prog 26 #[u.val, .agg #[.int .i64 lgen, .int .i64 lnext, .int .i64 llog, .int .i64 lseq, .slice lp ln lc]] w' fun e w'' => e = .returned (.bool true) ∧ Below w'.heap.size w' w'') := fun u w' hb hu huv hun => rsame_yes u ⟨lp, ln, lc, lgen, lnext, llog, lseq, les⟩ w' hu ((IA.out.next hb).held w' (IA.out.next hb).bel) huv (by rw [hun]; have := ZN.out; omega)
            clear hzf hzv hb8 LA
            go_wp2_with fail
            refine wp_region_held_drew (S := fun w' => Below WA.heap.size WA w') (by kernel_rfl) ((Below.refl _ _).drew) (fun hHeld => ?_)
            refine takeH (i := 0) 79 (v := .int .i64 0) rfl rfl (by kernel_rfl) (by kernel_rfl) (by kernel_rfl) (fun _ _ _ h => h) (Or.inl ⟨by rfl, ?_⟩) (by assumption) ?_
            · intro w' hSw'
              go_simp
            simp only [Act.put, List.setIfInBounds_toArray, List.set_cons_zero, List.set_cons_succ]
            refine takeH (i := 1) 80 (v := .bool false) rfl rfl (by kernel_rfl) (by kernel_rfl) (by kernel_rfl) (fun _ _ _ h => h) (Or.inl ⟨by rfl, ?_⟩) (by assumption) ?_
            · intro w' hSw'
              go_simp
            simp only [Act.put, List.setIfInBounds_toArray, List.set_cons_zero, List.set_cons_succ]
            refine takeH (i := 2) 81 (v := .bool false) rfl rfl (by kernel_rfl) (by kernel_rfl) (by kernel_rfl) (fun _ _ _ h => h) (Or.inl ⟨by rfl, ?_⟩) (by assumption) ?_
            · intro w' hSw'
              go_simp
            simp only [Act.put, List.setIfInBounds_toArray, List.set_cons_zero, List.set_cons_succ]
            refine takeH (i := 3) 82 (v := .agg #[.int .i64 zgen, .int .i64 znext, .int .i64 zlog, .int .i64 zseq, .slice zp zn zc]) rfl rfl (by kernel_rfl) (by kernel_rfl) (by kernel_rfl) (fun _ _ _ h => h) (Or.inl ⟨by rfl, ?_⟩) (by assumption) ?_
            · intro w' hSw'
              obtain ⟨d0, d1, d2, d3, d4⟩ := CZ.out w' hSw'
              go_simp
            simp only [Act.put, List.setIfInBounds_toArray, List.set_cons_zero, List.set_cons_succ]
            refine takeH (i := 5) 84 (v := .agg #[.int .i64 lgen, .int .i64 lnext, .int .i64 llog, .int .i64 lseq, .slice lp ln lc]) rfl rfl (by kernel_rfl) (by kernel_rfl) (by kernel_rfl) (fun _ _ _ h => h) (Or.inl ⟨by rfl, ?_⟩) (by assumption) ?_
            · intro w' hSw'
              obtain ⟨d0, d1, d2, d3, d4⟩ := CX.out w' hSw'
              go_simp
            simp only [Act.put, List.setIfInBounds_toArray, List.set_cons_zero, List.set_cons_succ]
            refine wpAnyH_ready (rs := [4]) (by kernel_rfl) (by simp) ?_
            refine AllReadyH.cons rfl (fun K hK => ?_) AllReadyH.nil
            go_simp
            refine (TH.out _ (Below.refl _ _).drew).mono ?_
            rintro eA w10 ⟨u, rfl, hu, huv, hun, hb10⟩
            have b10 : Hid (Below WA.heap.size WA w10) := ((Below.refl _ _).drew).trans (hb10.mono (Nat.le_refl _))
            have UH := keep hu
            have UV := keep huv
            have UN := keep hun
            have SMU := keep (SM.out u w10 b10.out UH.out UV.out UN.out)
            clear hu huv hun hb10
            go_wp2_with fail
            refine hK.out _ _ (b10.out) (fun hH1 => ?_)
            clear hK K
            refine wpAnyH_ready (rs := [6]) (by kernel_rfl) (by simp) ?_
            refine AllReadyH.cons rfl (fun K hK => ?_) AllReadyH.nil
            go_simp
            refine (SMU.out).mono ?_
            rintro eB w11 ⟨rfl, hb11⟩
            have b11 : Hid (Below WA.heap.size WA w11) := b10.out.trans (hb11.mono b10.out.size)
            clear hb11
            go_wp2_with fail
            refine hK.out _ _ (b11.out) (fun hH2 => ?_)
            clear hK K
            refine takeH (i := 7) 86 (v := .bool false) rfl rfl (by kernel_rfl) (by kernel_rfl) (by kernel_rfl) (fun _ _ _ h => h) (Or.inl ⟨by rfl, ?_⟩) (by assumption) ?_
            · intro w' hSw'
              go_simp
            simp only [Act.put, List.setIfInBounds_toArray, List.set_cons_zero, List.set_cons_succ]
            refine takeH (i := 8) 87 (v := .bool false) rfl rfl (by kernel_rfl) (by kernel_rfl) (by kernel_rfl) (fun _ _ _ h => h) (Or.inl ⟨by rfl, ?_⟩) (by assumption) ?_
            · intro w' hSw'
              go_simp
            simp only [Act.put, List.setIfInBounds_toArray, List.set_cons_zero, List.set_cons_succ]
            refine wpAnyH_done (by kernel_rfl) ?_ _
            have IB := keep ((IA.out.next b11.out).up (m' := (k + 1) * 2300000000000) (by omega))
            go_wp2
            go_roundw
            case rel => exact ⟨k + 1, _, ⟨lp, ln, lc, lgen, lnext, llog, lseq, les⟩, by omega, by omega, by go_num, IB.out⟩
            case measure => simp [intOf]; omega
        subst hE
        have I5' := keep (SV.out.1 rfl)
        obtain ⟨p0, p1, p2, p3, p4⟩ := CE.out w4 I5'.out.bel
        obtain ⟨c0, c1, c2, c3, c4⟩ := I5'.out.box.cells
        simp only at c0 c1 c2 c3 c4
        have fz : ∀ j, w4.frozen? ⟨q, j, none⟩ = false := fun j => by
          have h1 := I5'.out.box
          unfold boxV at h1
          simp [World.frozen?, h1]
        obtain ⟨W5, hW5⟩ : ∃ W5, setV w4 q ⟨xp, xn, xc, xgen, xnext, xlog, xseq, xes⟩ = W5 := ⟨_, rfl⟩
        have I5 : Hid (SuI w b q (k * 2300000000000 + 2299999999000) W5 D4 ⟨xp, xn, xc, xgen, xnext, xlog, xseq, xes⟩ (VV.v ⟨xp, xn, xc, xgen, xnext, xlog, xseq, xes⟩)) := by
          rw [← hW5, HV.out]
          exact I5'.out.put _ XH.out XN.out
        unfold setV at hW5
        simp only at hW5
        clear SV
        by_cases hbl : bn ≤ 4096
        case pos =>
          have hbl5 : (bn : Int) ≤ 4096 := by omega
          obtain ⟨S5, hD5, hN5⟩ := I5.out.disk
          have DH5 := keep hD5
          have N5 := keep hN5
          have AP : Hid (Calls Tryz.prog 29 #[.pointer (some ⟨b, 0, none⟩), .string ⟨#[99, 117, 114, 126]⟩, .slice ba bn bc] W5 fun e w' => (∃ z : Int, e = .returned (.int .i64 z)) ∧ SuI w b q (k * 2300000000000 + 2299999999001) w' (Dk.raw D4 0 tmpN [] bs).2 ⟨xp, xn, xc, xgen, xnext, xlog, xseq, xes⟩ (VV.v ⟨xp, xn, xc, xgen, xnext, xlog, xseq, xes⟩)) := by
            have h := append_raw S5 b D4 tmpN bs ba bc W5 DH5.out.mem (by decide) (fun w' hk => by rw [ML.out]; exact MK.out w' (DH5.out.gK hk)) (by have := I5.out.done; omega) []
            rw [ML.out] at h
            refine h.mono ?_
            intro e w' hr
            obtain ⟨rfl, hO⟩ := (Own.start DH5.out.mem).raw hr
            exact ⟨⟨_, rfl⟩, I5.out.more DH5.out N5.out hO⟩
          clear hD5 hN5
          go_wp2_with fail
          try rw [hW5]
          refine AP.out.mono ?_
          rintro e w6 ⟨⟨z6, rfl⟩, hI6⟩
          obtain ⟨D6, hD6⟩ : ∃ D6, (Dk.raw D4 0 tmpN [] bs).2 = D6 := ⟨_, rfl⟩
          rw [hD6] at hI6
          have I6 := keep hI6
          clear hI6 hD6 AP
          obtain ⟨S6, hD6, hN6⟩ := I6.out.disk
          have DH6 := keep hD6
          have N6 := keep hN6
          have CR : Hid (Calls Tryz.prog 25 #[.pointer (some ⟨b, 0, none⟩), .slice pa pn pc] w6 fun e w' => e = .returned (.int .i64 0) ∧ SuI w b q (k * 2300000000000 + 2299999999001) w' (Dk.crash D6 (zs.map up)) ⟨xp, xn, xc, xgen, xnext, xlog, xseq, xes⟩ (VV.v ⟨xp, xn, xc, xgen, xnext, xlog, xseq, xes⟩)) := by
            refine (crash_mem S6 b D6 pa pn pc zs w6 DH6.out.mem (fun w' hk => PK.out w' (DH6.out.gK hk)) PL.out).mono ?_
            intro e w' hr
            obtain ⟨rfl, hO⟩ := (Own.start DH6.out.mem).raw hr
            exact ⟨rfl, I6.out.crash DH6.out N6.out hO⟩
          clear hD6 hN6
          go_wp2_with fail
          refine CR.out.mono ?_
          rintro e w7 ⟨rfl, hI7⟩
          have I7 := keep hI7
          have LO := keep hI7.sure.load
          obtain ⟨D7, hD7⟩ : ∃ D7, Dk.crash D6 (zs.map up) = D7 := ⟨_, rfl⟩
          rw [hD7] at I7 LO
          obtain ⟨S7, h7, _⟩ := I7.out.disk
          have LA := keep (catload_any S7 b D7 w7 h7.mem h7.gW)
          rw [LO.out] at LA
          unfold LoadA at LA
          clear hI7 hD7 h7 CR
          go_wp2_with fail
          refine LA.out.mono ?_
          rintro e w8 ⟨⟨z, rfl, hzf, hzv⟩, hb8⟩
          have ZH := keep hzf.held
          have ZV := keep hzv
          obtain ⟨zp, zn, zc, zgen, znext, zlog, zseq, zes⟩ := z
          have ZN : Hid (zn ≤ 100) := by
            have h1 : zes.length = zn := ZH.out.len
            have h2 : zes.map (·.m) = (VV.v ⟨xp, xn, xc, xgen, xnext, xlog, xseq, xes⟩).tabs := (VV.isV hzv).2.2.2.2
            have h3 : xes.length = xn := (I7.out.held w7 I7.out.bel).len
            have h4 : xn ≤ 100 := I7.out.len
            have h5 := congrArg List.length h2
            rw [List.length_map] at h5
            have h6 : (VV.v ⟨xp, xn, xc, xgen, xnext, xlog, xseq, xes⟩).tabs.length = xes.length := List.length_map _
            show _ ≤ _
            omega
          try unfold VV.val
          simp only
          obtain ⟨WA, hWA⟩ : ∃ WA, w8.alloc (.cells #[.int .i64 zgen, .int .i64 znext, .int .i64 zlog, .int .i64 zseq, .slice zp zn zc] 50) = WA := ⟨_, rfl⟩
          have bA : Hid (Below w8.heap.size w8 WA) := by rw [← hWA]; exact (Below.refl _ _).alloc (Nat.le_refl _) _
          have IA := keep (I7.out.next (hb8.trans (bA.out.mono hb8.size)))
          have gA : Hid (WA.heap[w8.heap.size]? = some (.cells #[.int .i64 zgen, .int .i64 znext, .int .i64 zlog, .int .i64 zseq, .slice zp zn zc] 50)) := by rw [← hWA]; exact heap_alloc_new w8 _
          have CZ : Hid (∀ w', Below WA.heap.size WA w' → w'.cell? ⟨w8.heap.size, 0, none⟩ = some (.int .i64 zgen) ∧ w'.cell? ⟨w8.heap.size, 1, none⟩ = some (.int .i64 znext) ∧ w'.cell? ⟨w8.heap.size, 2, none⟩ = some (.int .i64 zlog) ∧ w'.cell? ⟨w8.heap.size, 3, none⟩ = some (.int .i64 zseq) ∧ w'.cell? ⟨w8.heap.size, 4, none⟩ = some (.slice zp zn zc)) := fun w' hb => ⟨below_cell hb (cell_of_row _ _ _ _ _ _ gA.out), below_cell hb (cell_of_row _ _ _ _ _ _ gA.out), below_cell hb (cell_of_row _ _ _ _ _ _ gA.out), below_cell hb (cell_of_row _ _ _ _ _ _ gA.out), below_cell hb (cell_of_row _ _ _ _ _ _ gA.out)⟩
          have TH : Hid (∀ w', Below WA.heap.size WA w' → Calls Tryz.prog 27 #[.agg #[.int .i64 zgen, .int .i64 znext, .int .i64 zlog, .int .i64 zseq, .slice zp zn zc]] w' fun e w'' => ∃ u : VV, e = .returned u.val ∧ VV.held w'' u ∧ u.v = (VV.v ⟨xp, xn, xc, xgen, xnext, xlog, xseq, xes⟩) ∧ u.n = zn ∧ Below w'.heap.size w' w'') := fun w' hb => by
            have h := theirs11 ⟨zp, zn, zc, zgen, znext, zlog, zseq, zes⟩ w' (ZH.out.below (bA.out.trans (hb.mono bA.out.size))) (by show zn ≤ _; have := ZN.out; omega)
            rw [ZV.out] at h
            exact h
          have CX : Hid (∀ w', Below WA.heap.size WA w' → w'.cell? ⟨q, 0, none⟩ = some (.int .i64 xgen) ∧ w'.cell? ⟨q, 1, none⟩ = some (.int .i64 xnext) ∧ w'.cell? ⟨q, 2, none⟩ = some (.int .i64 xlog) ∧ w'.cell? ⟨q, 3, none⟩ = some (.int .i64 xseq) ∧ w'.cell? ⟨q, 4, none⟩ = some (.slice xp xn xc)) := fun w' hb => (IA.out.next hb).box.cells
          have SM : Hid (∀ (u : VV) (w' : World), Below WA.heap.size WA w' → VV.held w' u → u.v = (VV.v ⟨xp, xn, xc, xgen, xnext, xlog, xseq, xes⟩) → u.n = zn → Calls Tryz.prog 26 #[u.val, .agg #[.int .i64 xgen, .int .i64 xnext, .int .i64 xlog, .int .i64 xseq, .slice xp xn xc]] w' fun e w'' => e = .returned (.bool true) ∧ Below w'.heap.size w' w'') := fun u w' hb hu huv hun => rsame_yes u ⟨xp, xn, xc, xgen, xnext, xlog, xseq, xes⟩ w' hu ((IA.out.next hb).held w' (IA.out.next hb).bel) huv (by rw [hun]; have := ZN.out; omega)
          clear hzf hzv hb8 LA
          go_wp2_with fail
          refine wp_region_held_drew (S := fun w' => Below WA.heap.size WA w') (by kernel_rfl) ((Below.refl _ _).drew) (fun hHeld => ?_)
          refine takeH (i := 0) 79 (v := .int .i64 0) rfl rfl (by kernel_rfl) (by kernel_rfl) (by kernel_rfl) (fun _ _ _ h => h) (Or.inl ⟨by rfl, ?_⟩) (by assumption) ?_
          · intro w' hSw'
            go_simp
          simp only [Act.put, List.setIfInBounds_toArray, List.set_cons_zero, List.set_cons_succ]
          refine takeH (i := 1) 80 (v := .bool false) rfl rfl (by kernel_rfl) (by kernel_rfl) (by kernel_rfl) (fun _ _ _ h => h) (Or.inl ⟨by rfl, ?_⟩) (by assumption) ?_
          · intro w' hSw'
            go_simp
          simp only [Act.put, List.setIfInBounds_toArray, List.set_cons_zero, List.set_cons_succ]
          refine takeH (i := 2) 81 (v := .bool false) rfl rfl (by kernel_rfl) (by kernel_rfl) (by kernel_rfl) (fun _ _ _ h => h) (Or.inl ⟨by rfl, ?_⟩) (by assumption) ?_
          · intro w' hSw'
            go_simp
          simp only [Act.put, List.setIfInBounds_toArray, List.set_cons_zero, List.set_cons_succ]
          refine takeH (i := 3) 82 (v := .agg #[.int .i64 zgen, .int .i64 znext, .int .i64 zlog, .int .i64 zseq, .slice zp zn zc]) rfl rfl (by kernel_rfl) (by kernel_rfl) (by kernel_rfl) (fun _ _ _ h => h) (Or.inl ⟨by rfl, ?_⟩) (by assumption) ?_
          · intro w' hSw'
            obtain ⟨d0, d1, d2, d3, d4⟩ := CZ.out w' hSw'
            go_simp
          simp only [Act.put, List.setIfInBounds_toArray, List.set_cons_zero, List.set_cons_succ]
          refine takeH (i := 5) 84 (v := .agg #[.int .i64 xgen, .int .i64 xnext, .int .i64 xlog, .int .i64 xseq, .slice xp xn xc]) rfl rfl (by kernel_rfl) (by kernel_rfl) (by kernel_rfl) (fun _ _ _ h => h) (Or.inl ⟨by rfl, ?_⟩) (by assumption) ?_
          · intro w' hSw'
            obtain ⟨d0, d1, d2, d3, d4⟩ := CX.out w' hSw'
            go_simp
          simp only [Act.put, List.setIfInBounds_toArray, List.set_cons_zero, List.set_cons_succ]
          refine wpAnyH_ready (rs := [4]) (by kernel_rfl) (by simp) ?_
          refine AllReadyH.cons rfl (fun K hK => ?_) AllReadyH.nil
          go_simp
          refine (TH.out _ (Below.refl _ _).drew).mono ?_
          rintro eA w10 ⟨u, rfl, hu, huv, hun, hb10⟩
          have b10 : Hid (Below WA.heap.size WA w10) := ((Below.refl _ _).drew).trans (hb10.mono (Nat.le_refl _))
          have UH := keep hu
          have UV := keep huv
          have UN := keep hun
          have SMU := keep (SM.out u w10 b10.out UH.out UV.out UN.out)
          clear hu huv hun hb10
          go_wp2_with fail
          refine hK.out _ _ (b10.out) (fun hH1 => ?_)
          clear hK K
          refine wpAnyH_ready (rs := [6]) (by kernel_rfl) (by simp) ?_
          refine AllReadyH.cons rfl (fun K hK => ?_) AllReadyH.nil
          go_simp
          refine (SMU.out).mono ?_
          rintro eB w11 ⟨rfl, hb11⟩
          have b11 : Hid (Below WA.heap.size WA w11) := b10.out.trans (hb11.mono b10.out.size)
          clear hb11
          go_wp2_with fail
          refine hK.out _ _ (b11.out) (fun hH2 => ?_)
          clear hK K
          refine takeH (i := 7) 86 (v := .bool false) rfl rfl (by kernel_rfl) (by kernel_rfl) (by kernel_rfl) (fun _ _ _ h => h) (Or.inl ⟨by rfl, ?_⟩) (by assumption) ?_
          · intro w' hSw'
            go_simp
          simp only [Act.put, List.setIfInBounds_toArray, List.set_cons_zero, List.set_cons_succ]
          refine takeH (i := 8) 87 (v := .bool false) rfl rfl (by kernel_rfl) (by kernel_rfl) (by kernel_rfl) (fun _ _ _ h => h) (Or.inl ⟨by rfl, ?_⟩) (by assumption) ?_
          · intro w' hSw'
            go_simp
          simp only [Act.put, List.setIfInBounds_toArray, List.set_cons_zero, List.set_cons_succ]
          refine wpAnyH_done (by kernel_rfl) ?_ _
          have IB := keep ((IA.out.next b11.out).up (m' := (k + 1) * 2300000000000) (by omega))
          go_wp2
          go_roundw
          case rel => exact ⟨k + 1, _, ⟨xp, xn, xc, xgen, xnext, xlog, xseq, xes⟩, by omega, by omega, by go_num, IB.out⟩
          case measure => simp [intOf]; omega
        case neg =>
          have hbl5 : ¬ (bn : Int) ≤ 4096 := by omega
          have I6 := keep (I5.out.up (m' := (k * 2300000000000 + 2299999999001)) (by omega))
          obtain ⟨D6, hD6⟩ : ∃ D6, D4 = D6 := ⟨_, rfl⟩
          rw [hD6] at I6
          clear hD6
          obtain ⟨S6, hD6, hN6⟩ := I6.out.disk
          have DH6 := keep hD6
          have N6 := keep hN6
          have CR : Hid (Calls Tryz.prog 25 #[.pointer (some ⟨b, 0, none⟩), .slice pa pn pc] W5 fun e w' => e = .returned (.int .i64 0) ∧ SuI w b q (k * 2300000000000 + 2299999999001) w' (Dk.crash D6 (zs.map up)) ⟨xp, xn, xc, xgen, xnext, xlog, xseq, xes⟩ (VV.v ⟨xp, xn, xc, xgen, xnext, xlog, xseq, xes⟩)) := by
            refine (crash_mem S6 b D6 pa pn pc zs W5 DH6.out.mem (fun w' hk => PK.out w' (DH6.out.gK hk)) PL.out).mono ?_
            intro e w' hr
            obtain ⟨rfl, hO⟩ := (Own.start DH6.out.mem).raw hr
            exact ⟨rfl, I6.out.crash DH6.out N6.out hO⟩
          clear hD6 hN6
          go_wp2_with fail
          try rw [hW5]
          refine CR.out.mono ?_
          rintro e w7 ⟨rfl, hI7⟩
          have I7 := keep hI7
          have LO := keep hI7.sure.load
          obtain ⟨D7, hD7⟩ : ∃ D7, Dk.crash D6 (zs.map up) = D7 := ⟨_, rfl⟩
          rw [hD7] at I7 LO
          obtain ⟨S7, h7, _⟩ := I7.out.disk
          have LA := keep (catload_any S7 b D7 w7 h7.mem h7.gW)
          rw [LO.out] at LA
          unfold LoadA at LA
          clear hI7 hD7 h7 CR
          go_wp2_with fail
          refine LA.out.mono ?_
          rintro e w8 ⟨⟨z, rfl, hzf, hzv⟩, hb8⟩
          have ZH := keep hzf.held
          have ZV := keep hzv
          obtain ⟨zp, zn, zc, zgen, znext, zlog, zseq, zes⟩ := z
          have ZN : Hid (zn ≤ 100) := by
            have h1 : zes.length = zn := ZH.out.len
            have h2 : zes.map (·.m) = (VV.v ⟨xp, xn, xc, xgen, xnext, xlog, xseq, xes⟩).tabs := (VV.isV hzv).2.2.2.2
            have h3 : xes.length = xn := (I7.out.held w7 I7.out.bel).len
            have h4 : xn ≤ 100 := I7.out.len
            have h5 := congrArg List.length h2
            rw [List.length_map] at h5
            have h6 : (VV.v ⟨xp, xn, xc, xgen, xnext, xlog, xseq, xes⟩).tabs.length = xes.length := List.length_map _
            show _ ≤ _
            omega
          try unfold VV.val
          simp only
          obtain ⟨WA, hWA⟩ : ∃ WA, w8.alloc (.cells #[.int .i64 zgen, .int .i64 znext, .int .i64 zlog, .int .i64 zseq, .slice zp zn zc] 50) = WA := ⟨_, rfl⟩
          have bA : Hid (Below w8.heap.size w8 WA) := by rw [← hWA]; exact (Below.refl _ _).alloc (Nat.le_refl _) _
          have IA := keep (I7.out.next (hb8.trans (bA.out.mono hb8.size)))
          have gA : Hid (WA.heap[w8.heap.size]? = some (.cells #[.int .i64 zgen, .int .i64 znext, .int .i64 zlog, .int .i64 zseq, .slice zp zn zc] 50)) := by rw [← hWA]; exact heap_alloc_new w8 _
          have CZ : Hid (∀ w', Below WA.heap.size WA w' → w'.cell? ⟨w8.heap.size, 0, none⟩ = some (.int .i64 zgen) ∧ w'.cell? ⟨w8.heap.size, 1, none⟩ = some (.int .i64 znext) ∧ w'.cell? ⟨w8.heap.size, 2, none⟩ = some (.int .i64 zlog) ∧ w'.cell? ⟨w8.heap.size, 3, none⟩ = some (.int .i64 zseq) ∧ w'.cell? ⟨w8.heap.size, 4, none⟩ = some (.slice zp zn zc)) := fun w' hb => ⟨below_cell hb (cell_of_row _ _ _ _ _ _ gA.out), below_cell hb (cell_of_row _ _ _ _ _ _ gA.out), below_cell hb (cell_of_row _ _ _ _ _ _ gA.out), below_cell hb (cell_of_row _ _ _ _ _ _ gA.out), below_cell hb (cell_of_row _ _ _ _ _ _ gA.out)⟩
          have TH : Hid (∀ w', Below WA.heap.size WA w' → Calls Tryz.prog 27 #[.agg #[.int .i64 zgen, .int .i64 znext, .int .i64 zlog, .int .i64 zseq, .slice zp zn zc]] w' fun e w'' => ∃ u : VV, e = .returned u.val ∧ VV.held w'' u ∧ u.v = (VV.v ⟨xp, xn, xc, xgen, xnext, xlog, xseq, xes⟩) ∧ u.n = zn ∧ Below w'.heap.size w' w'') := fun w' hb => by
            have h := theirs11 ⟨zp, zn, zc, zgen, znext, zlog, zseq, zes⟩ w' (ZH.out.below (bA.out.trans (hb.mono bA.out.size))) (by show zn ≤ _; have := ZN.out; omega)
            rw [ZV.out] at h
            exact h
          have CX : Hid (∀ w', Below WA.heap.size WA w' → w'.cell? ⟨q, 0, none⟩ = some (.int .i64 xgen) ∧ w'.cell? ⟨q, 1, none⟩ = some (.int .i64 xnext) ∧ w'.cell? ⟨q, 2, none⟩ = some (.int .i64 xlog) ∧ w'.cell? ⟨q, 3, none⟩ = some (.int .i64 xseq) ∧ w'.cell? ⟨q, 4, none⟩ = some (.slice xp xn xc)) := fun w' hb => (IA.out.next hb).box.cells
          have SM : Hid (∀ (u : VV) (w' : World), Below WA.heap.size WA w' → VV.held w' u → u.v = (VV.v ⟨xp, xn, xc, xgen, xnext, xlog, xseq, xes⟩) → u.n = zn → Calls Tryz.prog 26 #[u.val, .agg #[.int .i64 xgen, .int .i64 xnext, .int .i64 xlog, .int .i64 xseq, .slice xp xn xc]] w' fun e w'' => e = .returned (.bool true) ∧ Below w'.heap.size w' w'') := fun u w' hb hu huv hun => rsame_yes u ⟨xp, xn, xc, xgen, xnext, xlog, xseq, xes⟩ w' hu ((IA.out.next hb).held w' (IA.out.next hb).bel) huv (by rw [hun]; have := ZN.out; omega)
          clear hzf hzv hb8 LA
          go_wp2_with fail
          refine wp_region_held_drew (S := fun w' => Below WA.heap.size WA w') (by kernel_rfl) ((Below.refl _ _).drew) (fun hHeld => ?_)
          refine takeH (i := 0) 79 (v := .int .i64 0) rfl rfl (by kernel_rfl) (by kernel_rfl) (by kernel_rfl) (fun _ _ _ h => h) (Or.inl ⟨by rfl, ?_⟩) (by assumption) ?_
          · intro w' hSw'
            go_simp
          simp only [Act.put, List.setIfInBounds_toArray, List.set_cons_zero, List.set_cons_succ]
          refine takeH (i := 1) 80 (v := .bool false) rfl rfl (by kernel_rfl) (by kernel_rfl) (by kernel_rfl) (fun _ _ _ h => h) (Or.inl ⟨by rfl, ?_⟩) (by assumption) ?_
          · intro w' hSw'
            go_simp
          simp only [Act.put, List.setIfInBounds_toArray, List.set_cons_zero, List.set_cons_succ]
          refine takeH (i := 2) 81 (v := .bool false) rfl rfl (by kernel_rfl) (by kernel_rfl) (by kernel_rfl) (fun _ _ _ h => h) (Or.inl ⟨by rfl, ?_⟩) (by assumption) ?_
          · intro w' hSw'
            go_simp
          simp only [Act.put, List.setIfInBounds_toArray, List.set_cons_zero, List.set_cons_succ]
          refine takeH (i := 3) 82 (v := .agg #[.int .i64 zgen, .int .i64 znext, .int .i64 zlog, .int .i64 zseq, .slice zp zn zc]) rfl rfl (by kernel_rfl) (by kernel_rfl) (by kernel_rfl) (fun _ _ _ h => h) (Or.inl ⟨by rfl, ?_⟩) (by assumption) ?_
          · intro w' hSw'
            obtain ⟨d0, d1, d2, d3, d4⟩ := CZ.out w' hSw'
            go_simp
          simp only [Act.put, List.setIfInBounds_toArray, List.set_cons_zero, List.set_cons_succ]
          refine takeH (i := 5) 84 (v := .agg #[.int .i64 xgen, .int .i64 xnext, .int .i64 xlog, .int .i64 xseq, .slice xp xn xc]) rfl rfl (by kernel_rfl) (by kernel_rfl) (by kernel_rfl) (fun _ _ _ h => h) (Or.inl ⟨by rfl, ?_⟩) (by assumption) ?_
          · intro w' hSw'
            obtain ⟨d0, d1, d2, d3, d4⟩ := CX.out w' hSw'
            go_simp
          simp only [Act.put, List.setIfInBounds_toArray, List.set_cons_zero, List.set_cons_succ]
          refine wpAnyH_ready (rs := [4]) (by kernel_rfl) (by simp) ?_
          refine AllReadyH.cons rfl (fun K hK => ?_) AllReadyH.nil
          go_simp
          refine (TH.out _ (Below.refl _ _).drew).mono ?_
          rintro eA w10 ⟨u, rfl, hu, huv, hun, hb10⟩
          have b10 : Hid (Below WA.heap.size WA w10) := ((Below.refl _ _).drew).trans (hb10.mono (Nat.le_refl _))
          have UH := keep hu
          have UV := keep huv
          have UN := keep hun
          have SMU := keep (SM.out u w10 b10.out UH.out UV.out UN.out)
          clear hu huv hun hb10
          go_wp2_with fail
          refine hK.out _ _ (b10.out) (fun hH1 => ?_)
          clear hK K
          refine wpAnyH_ready (rs := [6]) (by kernel_rfl) (by simp) ?_
          refine AllReadyH.cons rfl (fun K hK => ?_) AllReadyH.nil
          go_simp
          refine (SMU.out).mono ?_
          rintro eB w11 ⟨rfl, hb11⟩
          have b11 : Hid (Below WA.heap.size WA w11) := b10.out.trans (hb11.mono b10.out.size)
          clear hb11
          go_wp2_with fail
          refine hK.out _ _ (b11.out) (fun hH2 => ?_)
          clear hK K
          refine takeH (i := 7) 86 (v := .bool false) rfl rfl (by kernel_rfl) (by kernel_rfl) (by kernel_rfl) (fun _ _ _ h => h) (Or.inl ⟨by rfl, ?_⟩) (by assumption) ?_
          · intro w' hSw'
            go_simp
          simp only [Act.put, List.setIfInBounds_toArray, List.set_cons_zero, List.set_cons_succ]
          refine takeH (i := 8) 87 (v := .bool false) rfl rfl (by kernel_rfl) (by kernel_rfl) (by kernel_rfl) (fun _ _ _ h => h) (Or.inl ⟨by rfl, ?_⟩) (by assumption) ?_
          · intro w' hSw'
            go_simp
          simp only [Act.put, List.setIfInBounds_toArray, List.set_cons_zero, List.set_cons_succ]
          refine wpAnyH_done (by kernel_rfl) ?_ _
          have IB := keep ((IA.out.next b11.out).up (m' := (k + 1) * 2300000000000) (by omega))
          go_wp2
          go_roundw
          case rel => exact ⟨k + 1, _, ⟨xp, xn, xc, xgen, xnext, xlog, xseq, xes⟩, by omega, by omega, by go_num, IB.out⟩
          case measure => simp [intOf]; omega
      · have lt : ¬ (k : Int) < 10 := by omega
        go_wp2
        go_ret
        exact ⟨rfl, BW.out⟩
    · have ll : ¬ (k : Int) < (n : Int) := by omega
      go_wp2
      go_ret
      exact ⟨rfl, BW.out⟩
end Go.Proofs.YtgkchkdjcebnaaaGreatDoor
