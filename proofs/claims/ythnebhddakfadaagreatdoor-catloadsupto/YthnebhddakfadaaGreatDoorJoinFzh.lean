/- The walk of the law's both: the program's disk of files, and the document's; Ops. -/
/- What is loaded, cleaned by and loaded again, over plain disks; what a clean takes away; no walk. -/
/- CatLoads' walk. -/
import Derived.Test.YthnebhddakfadaaGreatDoorLgb
import Derived.Test.YthnebhddakfadaaGreatDoorLgc
import Derived.Test.YthnebhddakfadaaGreatDoorJoinDp
import Derived.Test.YthnebhddakfadaaGreatDoorJoinFza
import Derived.Test.YthnebhddakfadaaGreatDoorJoinFzd
import Derived.Test.YthnebhddakfadaaGreatDoorJoinFo
namespace Go.Proofs.YthnebhddakfadaaGreatDoor
open Go.RowKit
open Dk (File Disk)

theorem ops_memF (S : Nat → Prop) (b : Nat) (d : Disk) (w : World) (h : Mem S w b d) : Calls Tryz.prog 12 #[.pointer (some ⟨b, 0, none⟩)] w fun e w' => e = .returned (.int .i64 (d.done : Int)) ∧ Below w.heap.size w w' := by
  obtain ⟨m, l, left, h⟩ := h
  exact ops_box b m _ left _ _ w h.box
/-- What both answers: no disk, or the program's. -/
def BothA (cap : Int) (es : List Ent) (w : World) (e : Ending) (w' : World) : Prop :=
  Below w.heap.size w w' ∧ ((∃ z : Nat, ldOf cap es = .inl z ∧ e = .returned (.tuple #[.pointer none, .pointer none])) ∨ ∃ S b d q, ldOf cap es = .inr d ∧ e = .returned (.tuple #[.pointer (some ⟨b, 0, none⟩), .pointer (some ⟨q, 0, none⟩)]) ∧ Mem S w' b d ∧ (∀ g, S g → w.heap.size ≤ g) ∧ w.heap.size ≤ b ∧ Ref (Go.Proofs.YthnebhddakfadaaGreatDoor.mine S b) w' q d ∧ w.heap.size ≤ q)
set_option maxHeartbeats 4000000 in
set_option maxRecDepth 100000 in
theorem both_any (cap : Int) (ao : Option Addr) (n c : Nat) (es : List Ent) (w : World) (hs : RSrc fileKind w ao n c es) (hn : n ≤ 1073741824) (hb : bulk es ≤ 1152921504606846976) (hby : ∀ e ∈ es, e.bytes.length ≤ 140737488355328) (hnl : ∀ e ∈ es, e.name.length ≤ maxLen) :
    Calls Tryz.prog 10 #[.int .i64 cap, .slice ao n c] w (BothA cap es w) := by
  have HS := keep hs
  have HLEN := keep hs.len
  have HB := keep hb
  have HBY := keep hby
  have HNL := keep hnl
  obtain ⟨i0, hi, hz0, hz1, hz2⟩ := info_parts3 infoF
  clear hs hb hby hnl
  go_enter Tryz.func10, Tryz.ntmps10
  go_wp2_with fail
  go_loopw [6, 7] (fun v i wr => ∃ t : Nat, t ≤ n ∧ i = .int .i64 (t : Int) ∧ Hid (wr.ownsRow w.heap.size 70 3 v t (rv fileKind (es.take t)) ∧ Below w.heap.size w wr)) (fun _ i _ => n - (intOf i).toNat)
  case atStart => exact ⟨0, Nat.zero_le _, rfl, World.ownsRow_nil _ _ _ _, Below.refl _ _⟩
  case round =>
    obtain ⟨t, ht, rfl, hg⟩ := hrel
    rcases Nat.lt_or_ge t n with hlt | hge
    · obtain ⟨e, he⟩ : ∃ e, es[t]? = some e := ⟨es[t]'(by rw [HLEN.out]; exact hlt), List.getElem?_eq_getElem _⟩
      obtain ⟨b, off, rfl, hbl, hat⟩ := HS.out.form fileKind_ok (by omega)
      have j0 : (0 : Int) ≤ (t : Int) := by omega
      have j1 : (t : Int) < (n : Int) := by omega
      have hst := keep (show es.take (t + 1) = es.take t ++ [e] by rw [List.take_add_one, he]; rfl)
      obtain ⟨fnm, fsf, p, k, fbs⟩ := e
      have hc0 : wr.cell? ⟨b, off + t * 3, none⟩ = some (.string ⟨fnm.toArray⟩) := below_cell hg.out.2 (hat t _ he 0 _ rfl)
      have hc1 : wr.cell? ⟨b, off + t * 3 + 1, none⟩ = some (.int .i64 fsf) := below_cell hg.out.2 (hat t _ he 1 _ rfl)
      have hc2 : wr.cell? ⟨b, off + t * 3 + 2, none⟩ = some (.slice p fbs.length k) := below_cell hg.out.2 (hat t _ he 2 _ rfl)
      clear hat he
      have b4 := keep (((Below.refl wr.heap.size wr).drew).alloc (w := wr.drew) (Nat.le_refl _) (.cells #[.string ⟨fnm.toArray⟩, .int .i64 fsf, .slice p fbs.length k] 70))
      have ow := keep (own_block (w' := (wr.alloc (.cells #[.string ⟨fnm.toArray⟩, .int .i64 fsf, .slice p fbs.length k] 70)).drew) hg.out.1 (fun g hgg => b4.out.block g (own_size hg.out.1 hgg)))
      have sz := keep (show w.heap.size ≤ ((wr.alloc (.cells #[.string ⟨fnm.toArray⟩, .int .i64 fsf, .slice p fbs.length k] 70)).drew).heap.size from Nat.le_trans hg.out.2.size b4.out.size)
      have qa : ∀ {pp : Addr} {vv : Value}, wr.cell? pp = some vv → ((wr.alloc (.cells #[.string ⟨fnm.toArray⟩, .int .i64 fsf, .slice p fbs.length k] 70)).drew).cell? pp = some vv := fun hh => below_cell (((Below.refl wr.heap.size wr).alloc (Nat.le_refl _) _).drew) hh
      have hn3 : some b ≠ u6.ownBlock := fun e => by have := (hg.out.1.lt b e.symm).1; omega
      go_wp2_with fail
      go_region_held3 (fun w' => w'.cell? ⟨b, off + t * 3, none⟩ = some (.string ⟨fnm.toArray⟩) ∧ w'.cell? ⟨b, off + t * 3 + 1, none⟩ = some (.int .i64 fsf) ∧ w'.cell? ⟨b, off + t * 3 + 2, none⟩ = some (.slice p fbs.length k))
        (first | go_keep | exact ⟨qa hc0, qa hc1, qa hc2⟩ | exact ⟨hc0, hc1, hc2⟩ | exact ⟨rr1 (qa hc0), rr1 (qa hc1), rr1 (qa hc2)⟩)
        (first | (refine step_append_rec fileKind_ok (by rfl) _ _ 44 70 (by rfl) w.heap.size i0 _ 48 Tryz.underlying44 hi hz0 hz1 hz2 (by rfl) u6 _ (es.take t) (by rfl) ow.out _ 1 (⟨fnm, fsf, p, k, fbs⟩ : Ent) (by rfl) (rec_cells (k := fileKind) wr 70 (⟨fnm, fsf, p, k, fbs⟩ : Ent)) (by unfold maxLen; omega) (by omega) sz.out ?_; intro v7 w7 ho7 hg7; have rr1 : ∀ {o : Nat} {vv : Value}, ((wr.alloc (.cells #[.string ⟨fnm.toArray⟩, .int .i64 fsf, .slice p fbs.length k] 70)).drew).cell? ⟨b, o, none⟩ = some vv → w7.cell? ⟨b, o, none⟩ = some vv := fun hh => hg7.cell hh hn3; have HO7 := keep ho7; have HG7 := keep hg7; clear ho7 hg7))
      have gn : Hid (w7.ownsRow w.heap.size 70 3 v7 (t + 1) (rv fileKind (es.take (t + 1))) ∧ Below w.heap.size w w7) := by
        refine ⟨by rw [hst.out]; exact HO7.out, (hg.out.2.trans (b4.out.mono hg.out.2.size)).grown HG7.out sz.out (fun g e => (hg.out.1.lt g e).1)⟩
      clear rr1 qa
      go_wp2
      go_roundw
      case rel => exact ⟨t + 1, by omega, by first | rfl | go_num, gn⟩
      case measure => simp [intOf]; omega
    · obtain rfl : t = n := by omega
      have hall := hg.out
      rw [List.take_of_length_le (by rw [HLEN.out]; exact Nat.le_refl _)] at hall
      obtain ⟨ao5, c5, rfl, hr5, _⟩ := RSrc.own fileKind_ok hall.1 (fun e he => fileKind_ok.below (HS.out.held e he) hall.2)
      have B5' := keep hall.2
      have LD := keep (dload_any cap ao5 t c5 es wr hr5 hn HB.out HBY.out HNL.out)
      clear hall hr5 hi hz0 hz1 hz2
      go_wp2_with fail
      refine LD.out.mono ?_
      rintro e w3 ⟨hb3, hr⟩
      have B3 := keep (B5'.out.trans (hb3.mono B5'.out.size))
      have S3 := keep (HS.out.below fileKind_ok B3.out)
      rcases hr with ⟨z, hz, rfl⟩ | ⟨S, b, d, hd, rfl, hm, hn3, hb0⟩
      · have HZ := keep hz
        have ZN : Hid (z ≠ 0) := by
          show _ ≠ _
          unfold ldOf at hz
          split at hz
          · cases hz; decide
          · split at hz
            · cases hz; decide
            · split at hz
              · cases hz; decide
              · cases hz
        have RL := keep (rload_any (fun _ => False) cap ao t c es w3 (fun g hg => hg.elim) S3.out hn HB.out HBY.out)
        clear hb3 hz LD
        go_wp2_with fail
        refine RL.out.mono ?_
        rintro e w4 ⟨hb4, hr⟩
        have B4 := keep (B3.out.trans (hb4.mono B3.out.size))
        obtain ⟨z2, hz2, rfl⟩ : ∃ z2 : Nat, ldOf cap es = .inl z2 ∧ e = .returned (.tuple #[.pointer none, .int .i64 (z2 : Int)]) := by
          rcases hr with h | ⟨d, q, h, _⟩
          · exact h
          · rw [HZ.out] at h; cases h
        obtain rfl : z = z2 := by rw [HZ.out] at hz2; cases hz2; rfl
        have z0 : ((z : Int) == 0) = false := by rw [beq_eq_false_iff_ne]; have := ZN.out; omega
        clear hb4 hr hz2 RL
        go_wp2
        go_ret2
        exact ⟨B4.out, .inl ⟨z, HZ.out, rfl⟩⟩
      · have HD := keep hd
        have I3 : Hid (Mem S w3 b d ∧ (∀ g, S g → w.heap.size ≤ g) ∧ w.heap.size ≤ b) := ⟨hm, fun g hg => Nat.le_trans B5'.out.size (hn3 g hg), Nat.le_trans B5'.out.size hb0⟩
        have RL := keep (rload_any (Go.Proofs.YthnebhddakfadaaGreatDoor.mine S b) cap ao t c es w3 (fun g hg => by
          have h1 := I3.out.1.lt
          rcases hg with hg | hg
          · exact h1.1 g hg
          · rw [hg]; exact h1.2.1) S3.out hn HB.out HBY.out)
        clear hb3 hd LD hm hn3 hb0
        go_wp2_with fail
        refine RL.out.mono ?_
        rintro e w4 ⟨hb4, hr⟩
        obtain ⟨q, rfl, hq, hlq⟩ : ∃ q, e = .returned (.tuple #[.pointer (some ⟨q, 0, none⟩), .int .i64 0]) ∧ Ref (Go.Proofs.YthnebhddakfadaaGreatDoor.mine S b) w4 q d ∧ w3.heap.size ≤ q := by
          rcases hr with ⟨z, h, _⟩ | ⟨d2, q, h, h1, h2, h3⟩
          · rw [HD.out] at h; cases h
          · rw [HD.out] at h; cases h; exact ⟨q, h1, h2, h3⟩
        have B4 := keep (B3.out.trans (hb4.mono B3.out.size))
        have M4 := keep (I3.out.1.below hb4)
        have Q4 := keep hq
        have LQ : Hid (w.heap.size ≤ q) := Nat.le_trans B3.out.size hlq
        clear hb4 hr hq hlq RL
        go_wp2
        go_ret2
        exact ⟨B4.out, .inr ⟨S, b, d, q, HD.out, rfl, M4.out, I3.out.2.1, I3.out.2.2, Q4.out, LQ.out⟩⟩
end Go.Proofs.YthnebhddakfadaaGreatDoor
namespace Go.Proofs.YthnebhddakfadaaGreatDoor
open Go.RowKit
open Dk (File Disk)

theorem ver_parts {g : Int} {l : List UInt8} {v : Ed.Ver} (h : verOf g l = some v) : v.gen = g ∧ Ed.chk v = true := by
  unfold verOf at h
  split at h
  · split at h
    · rename_i h1
      cases h
      simp only [Bool.and_eq_true, decide_eq_true_eq] at h1
      have h2 := h1.1
      unfold Ed.isVer at h2
      simp only [Bool.and_eq_true] at h2
      exact ⟨h1.2, h2.1⟩
    · cases h
  · cases h
/-- What a version that was loaded came of. -/
theorem load_parts {d : Disk} (h : (catLoad d).1 = 0) : (Dk.look d.files curN = none ∧ catLoad d = (0, zeroVer)) ∨ ∃ f g k v, Dk.look d.files curN = some f ∧ genOf f.bytes = some g ∧ isSeg ((g : Nat) : Int) = true ∧ Dk.look d.files (manN g) = some k ∧ verOf g k.bytes = some v ∧ catLoad d = (0, v) := by
  unfold catLoad at h ⊢
  cases h1 : Dk.look d.files curN with
  | none => exact .inl ⟨rfl, rfl⟩
  | some f =>
    rw [h1] at h
    simp only at h ⊢
    cases h2 : genOf f.bytes with
    | none => rw [h2] at h; cases h
    | some g =>
      rw [h2] at h
      simp only at h ⊢
      cases h3 : isSeg (g : Int) with
      | false => rw [h3] at h; cases h
      | true =>
        rw [h3] at h
        simp only [if_true] at h ⊢
        cases h4 : Dk.look d.files (manN g) with
        | none => rw [h4] at h; cases h
        | some k =>
          rw [h4] at h
          simp only at h ⊢
          cases h5 : verOf g k.bytes with
          | none => rw [h5] at h; cases h
          | some v => exact .inr ⟨f, g, k, v, rfl, h2, h3, h4, h5, rfl⟩
theorem load_of {d : Disk} {f : File} {g : Nat} {k : File} {v : Ed.Ver} (h1 : Dk.look d.files curN = some f) (h2 : genOf f.bytes = some g) (h3 : isSeg ((g : Nat) : Int) = true) (h4 : Dk.look d.files (manN g) = some k) (h5 : verOf g k.bytes = some v) : catLoad d = (0, v) := by
  unfold catLoad
  simp only [h1, h2, h3, if_true, h4, h5]
theorem zero_chk : Ed.chk zeroVer = true := by decide
theorem load_chk {d : Disk} (h : (catLoad d).1 = 0) : Ed.chk (catLoad d).2 = true := by
  rcases load_parts h with ⟨_, e⟩ | ⟨_, _, _, v, _, _, _, _, h5, e⟩
  · rw [e]; exact zero_chk
  · rw [e]; exact (ver_parts h5).2
theorem cln_cur (V : Ed.Ver) : clnP V.log (namesL V) curN = false := by
  unfold clnP
  rw [wal_cur, tab_cur, isMan_cur]
  simp [curN, tmpN]
theorem cln_own {V : Ed.Ver} (h : Ed.chk V = true) : clnP V.log (namesL V) (manN V.gen) = false := by
  unfold clnP
  rw [wal_man]
  simp [names_own (chk_seg h)]
theorem kept_full {f : File} (p : Nat) (h : f.safe = f.bytes.length) : Dk.kept f p = f := by
  obtain ⟨n, s, b⟩ := f
  simp only at h
  subst h
  exact kept_sure n b p
/-- Cleaned by what was loaded, and crashed: the same is loaded. -/
theorem load_clean {d : Disk} (g : Dk.Good d) (hl : Lit d) (hs : ∀ f ∈ d.files, f.safe = f.bytes.length) (h : (catLoad d).1 = 0) (qs : List Nat) : (cleanOf d (catLoad d).2).1 = 0 ∧ catLoad (Dk.crash (cleanOf d (catLoad d).2).2 qs) = catLoad d := by
  have hck := load_chk h
  have e1 : ∀ V, Ed.chk V = true → cleanOf d V = rmvAll (clnP V.log (namesL V)) d := fun V hV => by unfold cleanOf; rw [hV]; rfl
  rcases load_parts h with ⟨h1, e⟩ | ⟨f, n, k, v, h1, h2, h3, h4, h5, e⟩
  · rw [e] at hck ⊢
    simp only at hck ⊢
    rw [e1 _ hck]
    have hf := rmvAll_far (clnP zeroVer.log (namesL zeroVer)) g
    refine ⟨(hl.rmvAll _ g).1, ?_⟩
    have hc := hf.look curN (fun e => by rw [cln_cur] at e; cases e)
    rw [h1] at hc
    exact catLoad_none ((look_kept qs).1 hc)
  · rw [e] at hck ⊢
    simp only at hck ⊢
    have hg := (ver_parts h5).1
    rw [e1 _ hck]
    have hf := rmvAll_far (clnP v.log (namesL v)) g
    refine ⟨(hl.rmvAll _ g).1, ?_⟩
    have hc := hf.look curN (fun e => by rw [cln_cur] at e; cases e)
    have hm := hf.look (manN v.gen) (fun e => by rw [cln_own hck] at e; cases e)
    rw [h1] at hc
    rw [hg, h4] at hm
    obtain ⟨p1, q1⟩ := (look_kept qs).2 f hc
    obtain ⟨p2, q2⟩ := (look_kept qs).2 k hm
    rw [kept_full p1 (hs f (Dk.look_some h1).1)] at q1
    rw [kept_full p2 (hs k (Dk.look_some h4).1)] at q2
    exact load_of q1 h2 h3 q2 h5
/-- Behind a crash all bytes are sure. -/
theorem crash_full {d : Disk} (g : Dk.Good d) (ps : List Nat) : ∀ f ∈ (Dk.crash d ps).files, f.safe = f.bytes.length := fun f hf => by
  obtain ⟨k, hk, p, rfl⟩ := Dk.keptAll_mem hf
  have h1 := Dk.kept_le p (g.safes k hk)
  show k.safe + p % (k.bytes.length - k.safe + 1) = (k.bytes.take (k.safe + p % (k.bytes.length - k.safe + 1))).length
  rw [List.length_take]
  omega

end Go.Proofs.YthnebhddakfadaaGreatDoor
namespace Go.Proofs.YthnebhddakfadaaGreatDoor
open Go.RowKit
open Dk (File Disk)

set_option maxHeartbeats 8000000 in
set_option maxRecDepth 100000 in
theorem loads_walk (ao : Option Addr) (n c : Nat) (es : List Ent) (pa : Option Addr) (pn pc : Nat) (zs : List Int) (w : World) (hs : RSrc fileKind w ao n c es) (hn : n ≤ 1073741824) (hb : bulk es ≤ 1152921504606846976) (hby : ∀ e ∈ es, e.bytes.length ≤ 140737488355328) (hnl : ∀ e ∈ es, e.name.length ≤ maxLen) (hp : RSrc intKind w pa pn pc zs) (hpc : pc ≤ maxLen) (hg : Gl w) :
    Calls Tryz.prog 8 #[.slice ao n c, .slice pa pn pc] w fun e w' => e = .returned (.bool true) ∧ Below w.heap.size w w' := by
  have PL : Hid (pn ≤ maxLen) := Nat.le_trans hp.cap hpc
  have PK : Hid (∀ w', Below w.heap.size w w' → RSrc intKind w' pa pn pc zs) := fun w' h => hp.below intKind_ok h
  have HG := keep hg
  have AW := keep (awake11 w hg)
  have HS := keep hs
  have HB := keep hb
  have HBY := keep hby
  have HNL := keep hnl
  clear hs hb hby hnl hp hpc hg
  go_enter Tryz.func8, Tryz.ntmps8
  go_wp2_with fail
  refine AW.out.mono ?_
  rintro e w1 ⟨rfl, hb1⟩
  have B1 := keep hb1
  have BO := keep (both_any 1099511627776 ao n c es w1 (HS.out.below fileKind_ok hb1) hn HB.out HBY.out HNL.out)
  clear hb1 AW
  go_wp2_with fail
  refine BO.out.mono ?_
  rintro e w2 ⟨hb2, hr⟩
  have B2 := keep (B1.out.trans (hb2.mono B1.out.size))
  rcases hr with ⟨z, hz, rfl⟩ | ⟨S, b, d, q, hd, rfl, hm, hn3, hb0, _, _⟩
  · clear hz hb2 BO
    go_wp2
    go_ret
    exact ⟨rfl, B2.out⟩
  have D2 : Hid (DW w S w2 b d) := ⟨hm, fun g hg => by
    rcases hg with hg | hg
    · exact Nat.le_trans B1.out.size (hn3 g hg)
    · rw [hg]; exact Nat.le_trans B1.out.size hb0, B2.out, HG.out⟩
  have DN : Hid (d.done = 0) := by
    obtain ⟨_, _, fs, _, h, _⟩ := ldOf_good hd
    show _ = _
    rw [h]
  have CR : Hid (Calls Tryz.prog 25 #[.pointer (some ⟨b, 0, none⟩), .slice pa pn pc] w2 fun e w' => e = .returned (.int .i64 0) ∧ ∃ S', DW w S' w' b (Dk.crash d (zs.map up))) := by
    refine (crash_mem S b d pa pn pc zs w2 D2.out.mem (fun w' hk => PK.out w' (D2.out.gK hk)) PL.out).mono ?_
    intro e w' hr
    obtain ⟨rfl, hO⟩ := (Own.start D2.out.mem).raw hr
    exact ⟨rfl, _, D2.out.then hO⟩
  have FU := keep (crash_full D2.out.mem.good (zs.map up))
  have LI : Hid (Lit (Dk.crash d (zs.map up))) := ⟨rfl, rfl⟩
  have DC : Hid ((Dk.crash d (zs.map up)).done = 0) := DN.out
  clear hd hm hn3 hb0 hb2 BO
  go_wp2_with fail
  refine CR.out.mono ?_
  rintro e w3 ⟨rfl, S3, hD3⟩
  obtain ⟨D, hD⟩ : ∃ D, Dk.crash d (zs.map up) = D := ⟨_, rfl⟩
  rw [hD] at hD3 FU LI DC
  have D3 := keep hD3
  have LA := keep (catload_any S3 b D w3 hD3.mem hD3.gW)
  have SM9 := keep (catLoad_small D)
  have LC : Hid ((catLoad D).1 = 0 → (cleanOf D (catLoad D).2).1 = 0 ∧ catLoad (Dk.crash (cleanOf D (catLoad D).2).2 []) = catLoad D) := fun h => load_clean D3.out.mem.good LI.out FU.out h []
  obtain ⟨X, hX⟩ : ∃ X, catLoad D = X := ⟨_, rfl⟩
  rw [hX] at LA SM9 LC
  obtain ⟨E, Z⟩ := X
  simp only at SM9 LC
  unfold LoadA at LA
  simp only at LA
  clear hD hD3 hX CR
  go_wp2_with fail
  refine LA.out.mono ?_
  rintro e w9 ⟨⟨z, rfl, hzf, hzv⟩, hb9⟩
  have ZH := keep hzf.held
  have ZV := keep hzv
  obtain ⟨zp, zn, zc, zgen, znext, zlog, zseq, zes⟩ := z
  have ZN : Hid (zn ≤ 4096) := by
    have h1 : zes.length = zn := ZH.out.len
    have h2 : zes.map (·.m) = Z.tabs := (VV.isV hzv).2.2.2.2
    have h3 := SM9.out
    rw [← h2, List.length_map] at h3
    show _ ≤ _
    omega
  try unfold VV.val
  simp only
  obtain ⟨WA, hWA⟩ : ∃ WA, w9.alloc (.cells #[.int .i64 zgen, .int .i64 znext, .int .i64 zlog, .int .i64 zseq, .slice zp zn zc] 50) = WA := ⟨_, rfl⟩
  have bA : Hid (Below w9.heap.size w9 WA) := by rw [← hWA]; exact (Below.refl _ _).alloc (Nat.le_refl _) _
  have L8 := keep (hb9.trans (bA.out.mono hb9.size))
  have DA := keep (D3.out.next L8.out)
  have gA : Hid (WA.heap[w9.heap.size]? = some (.cells #[.int .i64 zgen, .int .i64 znext, .int .i64 zlog, .int .i64 zseq, .slice zp zn zc] 50)) := by rw [← hWA]; exact heap_alloc_new w9 _
  have S89 := keep hb9.size
  have ZF := keep hzf
  have CZ_ : Hid (∀ w', Below WA.heap.size WA w' → w'.cell? ⟨w9.heap.size, 0, none⟩ = some (.int .i64 zgen) ∧ w'.cell? ⟨w9.heap.size, 1, none⟩ = some (.int .i64 znext) ∧ w'.cell? ⟨w9.heap.size, 2, none⟩ = some (.int .i64 zlog) ∧ w'.cell? ⟨w9.heap.size, 3, none⟩ = some (.int .i64 zseq) ∧ w'.cell? ⟨w9.heap.size, 4, none⟩ = some (.slice zp zn zc)) := fun w' hb => ⟨below_cell hb (cell_of_row _ _ _ _ _ _ gA.out), below_cell hb (cell_of_row _ _ _ _ _ _ gA.out), below_cell hb (cell_of_row _ _ _ _ _ _ gA.out), below_cell hb (cell_of_row _ _ _ _ _ _ gA.out), below_cell hb (cell_of_row _ _ _ _ _ _ gA.out)⟩
  have OP : Hid (∀ w', Below WA.heap.size WA w' → Calls Tryz.prog 12 #[.pointer (some ⟨b, 0, none⟩)] w' fun e w'' => e = .returned (.int .i64 0) ∧ Below w'.heap.size w' w'') := fun w' hb => by
    have h := ops_memF S3 b D w' (DA.out.next hb).mem
    rw [DC.out] at h
    exact h
  have OLD : Hid (∀ g, Go.Proofs.YthnebhddakfadaaGreatDoor.mine S3 b g → g < w3.heap.size) := fun g hg => by
    have h1 := D3.out.mem.lt
    rcases hg with hg | hg
    · exact h1.1 g hg
    · rw [hg]; exact h1.2.1
  clear hzf hzv hb9 LA
  go_wp2_with fail
  refine (OP.out _ (Below.refl _ _)).mono ?_
  rintro e w10 ⟨rfl, hb10⟩
  have b10 := keep hb10
  clear hb10
  by_cases hE : E = 0
  case neg =>
    have z2 : ((E : Int) == 0) = false := by rw [beq_eq_false_iff_ne]; omega
    clear hE hWA
    go_wp2_with fail
    refine (OP.out _ b10.out).mono ?_
    rintro e w11 ⟨rfl, hb11⟩
    have D11 := keep (DA.out.next (b10.out.trans (hb11.mono b10.out.size)))
    clear hb11
    go_wp2
    go_ret
    exact ⟨rfl, D11.out.bel⟩
  subst hE
  have LZ := keep (LC.out rfl)
  have D10 := keep (DA.out.next b10.out)
  have g10 := keep (below_row gA.out b10.out)
  obtain ⟨e0, e1, e2, e3, e4⟩ := CZ_.out w10 b10.out
  have Z10 : Hid (Firm w3.heap.size w10 ⟨zp, zn, zc, zgen, znext, zlog, zseq, zes⟩) := ZF.out.below (bA.out.trans (b10.out.mono bA.out.size))
  have CL : Hid (Calls Tryz.prog 21 #[.pointer (some ⟨b, 0, none⟩), .agg #[.int .i64 zgen, .int .i64 znext, .int .i64 zlog, .int .i64 zseq, .slice zp zn zc]] w10 fun e w' => ∃ S', e = .returned (.int .i64 0) ∧ Own (Go.Proofs.YthnebhddakfadaaGreatDoor.mine S3 b) w10 S' w' b (cleanOf D Z).2 ∧ B5 w10 w') := by
    have h := clean_ownK S3 w10 b D ⟨zp, zn, zc, zgen, znext, zlog, zseq, zes⟩ D10.out.mem Z10.out.held (fun w' hk => HG.out.below (D10.out.gK hk)) (by rw [DC.out]; decide)
    rw [ZV.out, LZ.out.1] at h
    exact h
  obtain ⟨Dc, hDc⟩ : ∃ Dc, (cleanOf D Z).2 = Dc := ⟨_, rfl⟩
  rw [hDc] at CL LZ
  have SL := keep LZ.out.2
  have S10 := keep (Nat.le_trans L8.out.size b10.out.size)
  have V10 : Hid (w9.heap.size < w10.heap.size) := Nat.lt_of_lt_of_le (Array.getElem?_eq_some_iff.1 gA.out).1 b10.out.size
  clear hDc LC LZ
  clear hWA
  go_wp2_with fail
  refine CL.out.mono ?_
  rintro e w14 ⟨S14, rfl, hO14, hf14⟩
  have D14 := keep (D10.out.then hO14)
  have K14 := keep hO14.bel
  have F14 := keep hf14
  have MN14 : Hid (∀ g, w3.heap.size ≤ g → g < w10.heap.size → ¬ Go.Proofs.YthnebhddakfadaaGreatDoor.mine S14 b g) := fun g h1 h2 h3 => by
    rcases (hO14.mines g h3).1 with h4 | h4
    · have := OLD.out g h4; omega
    · omega
  have CR2 := keep (crash_memK S14 b Dc none 0 0 [] w14 D14.out.mem (fun w' _ => RSrc.empty (fun _ => rfl)) (Nat.zero_le _))
  clear hO14 hf14 e0 e1 e2 e3 e4
  go_wp2_with fail
  refine CR2.out.mono ?_
  rintro e w15 ⟨hr15, hf15⟩
  have K15 := keep hr15.2.2
  obtain ⟨rfl, hO15⟩ := (Own.start D14.out.mem).raw hr15
  have D15 := keep (D14.out.then hO15)
  have SAME : Hid (∀ g, w3.heap.size ≤ g → g < w10.heap.size → w15.heap[g]? = w10.heap[g]?) := fun g h1 h2 => (K15.out.block g (Nat.lt_of_lt_of_le h2 K14.out.size) (MN14.out g h1 h2)).trans (K14.out.block g h2 (fun e => by have := OLD.out g e; omega))
  have Z15 : Hid (Firm w3.heap.size w15 ⟨zp, zn, zc, zgen, znext, zlog, zseq, zes⟩) := Z10.out.clean SAME.out (F14.out.trans hf15)
  have q15 := keep ((SAME.out w9.heap.size S89.out V10.out).trans g10.out)
  have LB := keep (catload_any _ b (Dk.crash Dc []) w15 D15.out.mem D15.out.gW)
  rw [SL.out] at LB
  unfold LoadA at LB
  simp only at LB
  clear hr15 hf15 hO15 CR2
  go_wp2_with fail
  refine LB.out.mono ?_
  rintro e w16 ⟨⟨t, rfl, htf, htv⟩, hb16⟩
  have QH := keep htf.held
  have QV := keep htv
  obtain ⟨qp, qn, qc, qgen, qnext, qlog, qseq, qes⟩ := t
  have QN : Hid (qn ≤ 4096) := by
    have h1 : qes.length = qn := QH.out.len
    have h2 : qes.map (·.m) = Z.tabs := (VV.isV htv).2.2.2.2
    have h3 := SM9.out
    rw [← h2, List.length_map] at h3
    show _ ≤ _
    omega
  try unfold VV.val
  simp only
  obtain ⟨WB, hWB⟩ : ∃ WB, w16.alloc (.cells #[.int .i64 qgen, .int .i64 qnext, .int .i64 qlog, .int .i64 qseq, .slice qp qn qc] 50) = WB := ⟨_, rfl⟩
  have bB : Hid (Below w16.heap.size w16 WB) := by rw [← hWB]; exact (Below.refl _ _).alloc (Nat.le_refl _) _
  have L16 := keep (hb16.trans (bB.out.mono hb16.size))
  have D16 := keep (D15.out.next L16.out)
  have gB : Hid (WB.heap[w16.heap.size]? = some (.cells #[.int .i64 qgen, .int .i64 qnext, .int .i64 qlog, .int .i64 qseq, .slice qp qn qc] 50)) := by rw [← hWB]; exact heap_alloc_new w16 _
  have q16 := keep (below_row q15.out L16.out)
  have CQ_ : Hid (∀ w', Below WB.heap.size WB w' → w'.cell? ⟨w16.heap.size, 0, none⟩ = some (.int .i64 qgen) ∧ w'.cell? ⟨w16.heap.size, 1, none⟩ = some (.int .i64 qnext) ∧ w'.cell? ⟨w16.heap.size, 2, none⟩ = some (.int .i64 qlog) ∧ w'.cell? ⟨w16.heap.size, 3, none⟩ = some (.int .i64 qseq) ∧ w'.cell? ⟨w16.heap.size, 4, none⟩ = some (.slice qp qn qc)) := fun w' hb => ⟨below_cell hb (cell_of_row _ _ _ _ _ _ gB.out), below_cell hb (cell_of_row _ _ _ _ _ _ gB.out), below_cell hb (cell_of_row _ _ _ _ _ _ gB.out), below_cell hb (cell_of_row _ _ _ _ _ _ gB.out), below_cell hb (cell_of_row _ _ _ _ _ _ gB.out)⟩
  have CZ2 : Hid (∀ w', Below WB.heap.size WB w' → w'.cell? ⟨w9.heap.size, 0, none⟩ = some (.int .i64 zgen) ∧ w'.cell? ⟨w9.heap.size, 1, none⟩ = some (.int .i64 znext) ∧ w'.cell? ⟨w9.heap.size, 2, none⟩ = some (.int .i64 zlog) ∧ w'.cell? ⟨w9.heap.size, 3, none⟩ = some (.int .i64 zseq) ∧ w'.cell? ⟨w9.heap.size, 4, none⟩ = some (.slice zp zn zc)) := fun w' hb => ⟨below_cell hb (cell_of_row _ _ _ _ _ _ q16.out), below_cell hb (cell_of_row _ _ _ _ _ _ q16.out), below_cell hb (cell_of_row _ _ _ _ _ _ q16.out), below_cell hb (cell_of_row _ _ _ _ _ _ q16.out), below_cell hb (cell_of_row _ _ _ _ _ _ q16.out)⟩
  have THQ : Hid (∀ w', Below WB.heap.size WB w' → Calls Tryz.prog 27 #[.agg #[.int .i64 qgen, .int .i64 qnext, .int .i64 qlog, .int .i64 qseq, .slice qp qn qc]] w' fun e w'' => ∃ u : VV, e = .returned u.val ∧ VV.held w'' u ∧ u.v = Z ∧ u.n = qn ∧ Below w'.heap.size w' w'') := fun w' hb => by
    have h := theirs11 ⟨qp, qn, qc, qgen, qnext, qlog, qseq, qes⟩ w' (QH.out.below (bB.out.trans (hb.mono bB.out.size))) (by show qn ≤ _; have := QN.out; omega)
    rw [QV.out] at h
    exact h
  have THZ : Hid (∀ w', Below WB.heap.size WB w' → Calls Tryz.prog 27 #[.agg #[.int .i64 zgen, .int .i64 znext, .int .i64 zlog, .int .i64 zseq, .slice zp zn zc]] w' fun e w'' => ∃ u : VV, e = .returned u.val ∧ VV.held w'' u ∧ u.v = Z ∧ u.n = zn ∧ Below w'.heap.size w' w'') := fun w' hb => by
    have h := theirs11 ⟨zp, zn, zc, zgen, znext, zlog, zseq, zes⟩ w' (Z15.out.held.below (L16.out.trans (hb.mono L16.out.size))) (by show zn ≤ _; have := ZN.out; omega)
    rw [ZV.out] at h
    exact h
  clear htf htv hb16 LB
  go_wp2_with fail
  refine wp_region_held_drew (S := fun w' => Below WB.heap.size WB w') (by kernel_rfl) ((Below.refl _ _).drew) (fun hHeld => ?_)
  refine takeH (i := 0) 54 (v := .int .i64 0) rfl rfl (by kernel_rfl) (by kernel_rfl) (by kernel_rfl) (fun _ _ _ h => h) (Or.inl ⟨by rfl, ?_⟩) (by assumption) ?_
  · intro w' hSw'
    go_simp
  simp only [Act.put, List.setIfInBounds_toArray, List.set_cons_zero, List.set_cons_succ]
  refine takeH (i := 1) 55 (v := .bool true) rfl rfl (by kernel_rfl) (by kernel_rfl) (by kernel_rfl) (fun _ _ _ h => h) (Or.inl ⟨by rfl, ?_⟩) (by assumption) ?_
  · intro w' hSw'
    go_simp
  simp only [Act.put, List.setIfInBounds_toArray, List.set_cons_zero, List.set_cons_succ]
  refine takeH (i := 2) 56 (v := .bool true) rfl rfl (by kernel_rfl) (by kernel_rfl) (by kernel_rfl) (fun _ _ _ h => h) (Or.inl ⟨by rfl, ?_⟩) (by assumption) ?_
  · intro w' hSw'
    go_simp
  simp only [Act.put, List.setIfInBounds_toArray, List.set_cons_zero, List.set_cons_succ]
  refine takeH (i := 3) 57 (v := .int .i64 0) rfl rfl (by kernel_rfl) (by kernel_rfl) (by kernel_rfl) (fun _ _ _ h => h) (Or.inl ⟨by rfl, ?_⟩) (by assumption) ?_
  · intro w' hSw'
    go_simp
  simp only [Act.put, List.setIfInBounds_toArray, List.set_cons_zero, List.set_cons_succ]
  refine takeH (i := 4) 58 (v := .bool true) rfl rfl (by kernel_rfl) (by kernel_rfl) (by kernel_rfl) (fun _ _ _ h => h) (Or.inl ⟨by rfl, ?_⟩) (by assumption) ?_
  · intro w' hSw'
    go_simp
  simp only [Act.put, List.setIfInBounds_toArray, List.set_cons_zero, List.set_cons_succ]
  refine takeH (i := 5) 59 (v := .bool true) rfl rfl (by kernel_rfl) (by kernel_rfl) (by kernel_rfl) (fun _ _ _ h => h) (Or.inl ⟨by rfl, ?_⟩) (by assumption) ?_
  · intro w' hSw'
    go_simp
  simp only [Act.put, List.setIfInBounds_toArray, List.set_cons_zero, List.set_cons_succ]
  refine takeH (i := 6) 60 (v := .bool true) rfl rfl (by kernel_rfl) (by kernel_rfl) (by kernel_rfl) (fun _ _ _ h => h) (Or.inl ⟨by rfl, ?_⟩) (by assumption) ?_
  · intro w' hSw'
    go_simp
  simp only [Act.put, List.setIfInBounds_toArray, List.set_cons_zero, List.set_cons_succ]
  refine takeH (i := 7) 61 (v := .agg #[.int .i64 zgen, .int .i64 znext, .int .i64 zlog, .int .i64 zseq, .slice zp zn zc]) rfl rfl (by kernel_rfl) (by kernel_rfl) (by kernel_rfl) (fun _ _ _ h => h) (Or.inl ⟨by rfl, ?_⟩) (by assumption) ?_
  · intro w' hSw'
    obtain ⟨d0, d1, d2, d3, d4⟩ := CZ2.out w' hSw'
    go_simp
  simp only [Act.put, List.setIfInBounds_toArray, List.set_cons_zero, List.set_cons_succ]
  refine takeH (i := 9) 63 (v := .agg #[.int .i64 qgen, .int .i64 qnext, .int .i64 qlog, .int .i64 qseq, .slice qp qn qc]) rfl rfl (by kernel_rfl) (by kernel_rfl) (by kernel_rfl) (fun _ _ _ h => h) (Or.inl ⟨by rfl, ?_⟩) (by assumption) ?_
  · intro w' hSw'
    obtain ⟨d0, d1, d2, d3, d4⟩ := CQ_.out w' hSw'
    go_simp
  simp only [Act.put, List.setIfInBounds_toArray, List.set_cons_zero, List.set_cons_succ]
  refine wpAnyH_ready (rs := [8]) (by kernel_rfl) (by simp) ?_
  refine AllReadyH.cons rfl (fun K hK => ?_) AllReadyH.nil
  go_simp
  refine (THZ.out _ (Below.refl _ _).drew).mono ?_
  rintro eE w17 ⟨u3, rfl, hu, huv, hun, hb17⟩
  have b17 : Hid (Below WB.heap.size WB w17) := ((Below.refl _ _).drew).trans (hb17.mono (Nat.le_refl _))
  have U3H := keep hu
  have U3V := keep huv
  have U3N := keep hun
  clear hu huv hun hb17
  go_wp2_with fail
  refine hK.out _ _ (b17.out) (fun hH5 => ?_)
  clear hK K
  refine wpAnyH_ready (rs := [10]) (by kernel_rfl) (by simp) ?_
  refine AllReadyH.cons rfl (fun K hK => ?_) AllReadyH.nil
  go_simp
  refine (THQ.out _ b17.out).mono ?_
  rintro eF w18 ⟨u4, rfl, hu, huv, hun, hb18⟩
  have b18 : Hid (Below WB.heap.size WB w18) := b17.out.trans (hb18.mono b17.out.size)
  have SMU := keep (rsame_yes u3 u4 w18 (U3H.out.below hb18) hu (U3V.out.trans huv.symm) (by rw [U3N.out]; have := ZN.out; omega))
  clear hu huv hun hb18
  go_wp2_with fail
  refine hK.out _ _ (b18.out) (fun hH6 => ?_)
  clear hK K
  refine wpAnyH_ready (rs := [11]) (by kernel_rfl) (by simp) ?_
  refine AllReadyH.cons rfl (fun K hK => ?_) AllReadyH.nil
  go_simp
  refine (SMU.out).mono ?_
  rintro eG w19 ⟨rfl, hb19⟩
  have b19 : Hid (Below WB.heap.size WB w19) := b18.out.trans (hb19.mono b18.out.size)
  clear hb19
  go_wp2_with fail
  refine hK.out _ _ (b19.out) (fun hH7 => ?_)
  clear hK K
  refine takeH (i := 12) 66 (v := .bool true) rfl rfl (by kernel_rfl) (by kernel_rfl) (by kernel_rfl) (fun _ _ _ h => h) (Or.inl ⟨by rfl, ?_⟩) (by assumption) ?_
  · intro w' hSw'
    go_simp
  simp only [Act.put, List.setIfInBounds_toArray, List.set_cons_zero, List.set_cons_succ]
  refine takeH (i := 13) 4 (v := .bool true) rfl rfl (by kernel_rfl) (by kernel_rfl) (by kernel_rfl) (fun _ _ _ h => h) (Or.inl ⟨by rfl, ?_⟩) (by assumption) ?_
  · intro w' hSw'
    go_simp
  simp only [Act.put, List.setIfInBounds_toArray, List.set_cons_zero, List.set_cons_succ]
  refine wpAnyH_done (by kernel_rfl) ?_ _
  have D19 := keep (D16.out.next b19.out)
  go_wp2
  go_ret
  exact ⟨rfl, D19.out.bel⟩
end Go.Proofs.YthnebhddakfadaaGreatDoor
