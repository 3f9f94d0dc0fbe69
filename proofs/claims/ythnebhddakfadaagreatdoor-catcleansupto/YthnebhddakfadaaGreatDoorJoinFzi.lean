/- The walk of the law's both: the program's disk of files, and the document's; Ops. -/
/- What is loaded, cleaned by and loaded again, over plain disks; what a clean takes away; no walk. -/
/- CatCleans' walk. -/
import Derived.Test.YthnebhddakfadaaGreatDoorLgb
import Derived.Test.YthnebhddakfadaaGreatDoorLgc
import Derived.Test.YthnebhddakfadaaGreatDoorJoinDp
import Derived.Test.YthnebhddakfadaaGreatDoorJoinFza
import Derived.Test.YthnebhddakfadaaGreatDoorJoinFzd
import Derived.Test.YthnebhddakfadaaGreatDoorJoinFo
namespace Go.Proofs.YthnebhddakfadaaGreatDoor
open Go.RowKit
open Dk (File Disk)

/-- What both answers: no disk, or the program's. -/
def BothA (cap : Int) (es : List Ent) (w : World) (e : Ending) (w' : World) : Prop :=
  Below w.heap.size w w' ∧ ((∃ z : Nat, ldOf cap es = .inl z ∧ e = .returned (.tuple #[.pointer none, .pointer none])) ∨ ∃ S b d q, ldOf cap es = .inr d ∧ e = .returned (.tuple #[.pointer (some ⟨b, 0, none⟩), .pointer (some ⟨q, 0, none⟩)]) ∧ Mem S w' b d ∧ (∀ g, S g → w.heap.size ≤ g) ∧ w.heap.size ≤ b ∧ Ref (Go.Proofs.YthnebhddakfadaaGreatDoor.mine S b) w' q d ∧ w.heap.size ≤ q)
set_option maxHeartbeats 4000000 in
set_option maxRecDepth 100000 in
theorem both_any (cap : Int) (ao : Option Addr) (n c : Nat) (es : List Ent) (w : World) (hs : RSrc fileKind w ao n c es) (hn : n ≤ 1073741824) (hb : bulk es ≤ 1152921504606846976) (hby : ∀ e ∈ es, e.bytes.length ≤ 140737488355328) (hnl : ∀ e ∈ es, e.name.length ≤ maxLen) :
    Calls Tryz.prog 10 #[.int .i64 cap, .slice ao n c] w (BothA cap es w) := by
  have HS := keep hs
  have HLEN := keep hs.len
  have HB := keep hb
  have HBY := keep hby
  have HNL := keep hnl
  obtain ⟨i0, hi, hz0, hz1, hz2⟩ := info_parts3 infoF
  clear hs hb hby hnl
  go_enter Tryz.func10, Tryz.ntmps10
  go_wp2_with fail
  go_loopw [6, 7] (fun v i wr => ∃ t : Nat, t ≤ n ∧ i = .int .i64 (t : Int) ∧ Hid (wr.ownsRow w.heap.size 70 3 v t (rv fileKind (es.take t)) ∧ Below w.heap.size w wr)) (fun _ i _ => n - (intOf i).toNat)
  case atStart => exact ⟨0, Nat.zero_le _, rfl, World.ownsRow_nil _ _ _ _, Below.refl _ _⟩
  case round =>
    obtain ⟨t, ht, rfl, hg⟩ := hrel
    rcases Nat.lt_or_ge t n with hlt | hge
    · obtain ⟨e, he⟩ : ∃ e, es[t]? = some e := ⟨es[t]'(by rw [HLEN.out]; exact hlt), List.getElem?_eq_getElem _⟩
      obtain ⟨b, off, rfl, hbl, hat⟩ := HS.out.form fileKind_ok (by omega)
      have j0 : (0 : Int) ≤ (t : Int) := by omega
      have j1 : (t : Int) < (n : Int) := by omega
      have hst := keep (show es.take (t + 1) = es.take t ++ [e] by rw [List.take_add_one, he]; rfl)
      obtain ⟨fnm, fsf, p, k, fbs⟩ := e
      have hc0 : wr.cell? ⟨b, off + t * 3, none⟩ = some (.string ⟨fnm.toArray⟩) := below_cell hg.out.2 (hat t _ he 0 _ rfl)
      have hc1 : wr.cell? ⟨b, off + t * 3 + 1, none⟩ = some (.int .i64 fsf) := below_cell hg.out.2 (hat t _ he 1 _ rfl)
      have hc2 : wr.cell? ⟨b, off + t * 3 + 2, none⟩ = some (.slice p fbs.length k) := below_cell hg.out.2 (hat t _ he 2 _ rfl)
      clear hat he
      have b4 := keep (((Below.refl wr.heap.size wr).drew).alloc (w := wr.drew) (Nat.le_refl _) (.cells #[.string ⟨fnm.toArray⟩, .int .i64 fsf, .slice p fbs.length k] 70))
      have ow := keep (own_block (w' := (wr.alloc (.cells #[.string ⟨fnm.toArray⟩, .int .i64 fsf, .slice p fbs.length k] 70)).drew) hg.out.1 (fun g hgg => b4.out.block g (own_size hg.out.1 hgg)))
      have sz := keep (show w.heap.size ≤ ((wr.alloc (.cells #[.string ⟨fnm.toArray⟩, .int .i64 fsf, .slice p fbs.length k] 70)).drew).heap.size from Nat.le_trans hg.out.2.size b4.out.size)
      have qa : ∀ {pp : Addr} {vv : Value}, wr.cell? pp = some vv → ((wr.alloc (.cells #[.string ⟨fnm.toArray⟩, .int .i64 fsf, .slice p fbs.length k] 70)).drew).cell? pp = some vv := fun hh => below_cell (((Below.refl wr.heap.size wr).alloc (Nat.le_refl _) _).drew) hh
      have hn3 : some b ≠ u6.ownBlock := fun e => by have := (hg.out.1.lt b e.symm).1; omega
      go_wp2_with fail
      go_region_held3 (fun w' => w'.cell? ⟨b, off + t * 3, none⟩ = some (.string ⟨fnm.toArray⟩) ∧ w'.cell? ⟨b, off + t * 3 + 1, none⟩ = some (.int .i64 fsf) ∧ w'.cell? ⟨b, off + t * 3 + 2, none⟩ = some (.slice p fbs.length k))
        (first | go_keep | exact ⟨qa hc0, qa hc1, qa hc2⟩ | exact ⟨hc0, hc1, hc2⟩ | exact ⟨rr1 (qa hc0), rr1 (qa hc1), rr1 (qa hc2)⟩)
        (first | (refine step_append_rec fileKind_ok (by rfl) _ _ 44 70 (by rfl) w.heap.size i0 _ 48 Tryz.underlying44 hi hz0 hz1 hz2 (by rfl) u6 _ (es.take t) (by rfl) ow.out _ 1 (⟨fnm, fsf, p, k, fbs⟩ : Ent) (by rfl) (rec_cells (k := fileKind) wr 70 (⟨fnm, fsf, p, k, fbs⟩ : Ent)) (by unfold maxLen; omega) (by omega) sz.out ?_; intro v7 w7 ho7 hg7; have rr1 : ∀ {o : Nat} {vv : Value}, ((wr.alloc (.cells #[.string ⟨fnm.toArray⟩, .int .i64 fsf, .slice p fbs.length k] 70)).drew).cell? ⟨b, o, none⟩ = some vv → w7.cell? ⟨b, o, none⟩ = some vv := fun hh => hg7.cell hh hn3; have HO7 := keep ho7; have HG7 := keep hg7; clear ho7 hg7))
      have gn : Hid (w7.ownsRow w.heap.size 70 3 v7 (t + 1) (rv fileKind (es.take (t + 1))) ∧ Below w.heap.size w w7) := by
        refine ⟨by rw [hst.out]; exact HO7.out, (hg.out.2.trans (b4.out.mono hg.out.2.size)).grown HG7.out sz.out (fun g e => (hg.out.1.lt g e).1)⟩
      clear rr1 qa
      go_wp2
      go_roundw
      case rel => exact ⟨t + 1, by omega, by first | rfl | go_num, gn⟩
      case measure => simp [intOf]; omega
    · obtain rfl : t = n := by omega
      have hall := hg.out
      rw [List.take_of_length_le (by rw [HLEN.out]; exact Nat.le_refl _)] at hall
      obtain ⟨ao5, c5, rfl, hr5, _⟩ := RSrc.own fileKind_ok hall.1 (fun e he => fileKind_ok.below (HS.out.held e he) hall.2)
      have B5' := keep hall.2
      have LD := keep (dload_any cap ao5 t c5 es wr hr5 hn HB.out HBY.out HNL.out)
      clear hall hr5 hi hz0 hz1 hz2
      go_wp2_with fail
      refine LD.out.mono ?_
      rintro e w3 ⟨hb3, hr⟩
      have B3 := keep (B5'.out.trans (hb3.mono B5'.out.size))
      have S3 := keep (HS.out.below fileKind_ok B3.out)
      rcases hr with ⟨z, hz, rfl⟩ | ⟨S, b, d, hd, rfl, hm, hn3, hb0⟩
      · have HZ := keep hz
        have ZN : Hid (z ≠ 0) := by
          show _ ≠ _
          unfold ldOf at hz
          split at hz
          · cases hz; decide
          · split at hz
            · cases hz; decide
            · split at hz
              · cases hz; decide
              · cases hz
        have RL := keep (rload_any (fun _ => False) cap ao t c es w3 (fun g hg => hg.elim) S3.out hn HB.out HBY.out)
        clear hb3 hz LD
        go_wp2_with fail
        refine RL.out.mono ?_
        rintro e w4 ⟨hb4, hr⟩
        have B4 := keep (B3.out.trans (hb4.mono B3.out.size))
        obtain ⟨z2, hz2, rfl⟩ : ∃ z2 : Nat, ldOf cap es = .inl z2 ∧ e = .returned (.tuple #[.pointer none, .int .i64 (z2 : Int)]) := by
          rcases hr with h | ⟨d, q, h, _⟩
          · exact h
          · rw [HZ.out] at h; cases h
        obtain rfl : z = z2 := by rw [HZ.out] at hz2; cases hz2; rfl
        have z0 : ((z : Int) == 0) = false := by rw [beq_eq_false_iff_ne]; have := ZN.out; omega
        clear hb4 hr hz2 RL
        go_wp2
        go_ret2
        exact ⟨B4.out, .inl ⟨z, HZ.out, rfl⟩⟩
      · have HD := keep hd
        have I3 : Hid (Mem S w3 b d ∧ (∀ g, S g → w.heap.size ≤ g) ∧ w.heap.size ≤ b) := ⟨hm, fun g hg => Nat.le_trans B5'.out.size (hn3 g hg), Nat.le_trans B5'.out.size hb0⟩
        have RL := keep (rload_any (Go.Proofs.YthnebhddakfadaaGreatDoor.mine S b) cap ao t c es w3 (fun g hg => by
          have h1 := I3.out.1.lt
          rcases hg with hg | hg
          · exact h1.1 g hg
          · rw [hg]; exact h1.2.1) S3.out hn HB.out HBY.out)
        clear hb3 hd LD hm hn3 hb0
        go_wp2_with fail
        refine RL.out.mono ?_
        rintro e w4 ⟨hb4, hr⟩
        obtain ⟨q, rfl, hq, hlq⟩ : ∃ q, e = .returned (.tuple #[.pointer (some ⟨q, 0, none⟩), .int .i64 0]) ∧ Ref (Go.Proofs.YthnebhddakfadaaGreatDoor.mine S b) w4 q d ∧ w3.heap.size ≤ q := by
          rcases hr with ⟨z, h, _⟩ | ⟨d2, q, h, h1, h2, h3⟩
          · rw [HD.out] at h; cases h
          · rw [HD.out] at h; cases h; exact ⟨q, h1, h2, h3⟩
        have B4 := keep (B3.out.trans (hb4.mono B3.out.size))
        have M4 := keep (I3.out.1.below hb4)
        have Q4 := keep hq
        have LQ : Hid (w.heap.size ≤ q) := Nat.le_trans B3.out.size hlq
        clear hb4 hr hq hlq RL
        go_wp2
        go_ret2
        exact ⟨B4.out, .inr ⟨S, b, d, q, HD.out, rfl, M4.out, I3.out.2.1, I3.out.2.2, Q4.out, LQ.out⟩⟩
end Go.Proofs.YthnebhddakfadaaGreatDoor
namespace Go.Proofs.YthnebhddakfadaaGreatDoor
open Go.RowKit
open Dk (File Disk)

/-- What is removed, told by names, of a disk with power: the others stay, as they were. -/
theorem drop_filter (n : List UInt8) : ∀ l : List File, Dk.drop l n = l.filter fun f => !decide (f.name = n)
  | [] => rfl
  | f :: t => by
    simp only [Dk.drop, List.filter_cons, drop_filter n t]
    by_cases h : f.name = n
    · simp [h]
    · simp [h]
theorem remove_files {d : Disk} (h : Lit d) (g : Dk.Good d) {n : List UInt8} (hn : (Dk.look d.files n).isSome = true) : (Dk.raw d 3 n [] []).2.files = Dk.drop d.files n := by
  obtain ⟨m, h1, h2⟩ := raw_ok (h.remove g hn)
  rw [h2]
  unfold Dk.plan Dk.guard at h1
  simp only at h1
  split at h1
  · split at h1
    · cases h1
    · unfold Dk.planRemove at h1
      split at h1
      · cases h1; rfl
      · cases h1
  · cases h1
theorem rmv_filter (p : List UInt8 → Bool) : ∀ (ns : List (List UInt8)) {d : Disk}, Lit d → Dk.Good d → ns.Nodup → (∀ n ∈ ns, (Dk.look d.files n).isSome = true) → (rmv p d ns).2.files = d.files.filter fun f => !(p f.name && decide (f.name ∈ ns))
  | [], d, _, _, _, _ => by
    show d.files = _
    rw [List.filter_eq_self.2]
    intro f _
    simp
  | n :: t, d, hl, g, hn, h => by
    have hnd := List.nodup_cons.1 hn
    simp only [rmv]
    cases hp : p n with
    | false =>
      rw [if_neg (by decide), rmv_filter p t hl g hnd.2 (fun m hm => h m (List.mem_cons_of_mem _ hm))]
      refine List.filter_congr (fun f _ => ?_)
      by_cases hf : f.name = n
      · rw [hf, hp]; simp
      · simp [hf]
    | true =>
      have h0 := hl.remove g (h n (List.mem_cons_self ..))
      have hf := remove_files hl g (h n (List.mem_cons_self ..))
      rw [if_pos rfl, if_pos h0]
      have hlit := hl.raw 3 n [] []
      rw [rmv_filter p t hlit (Dk.raw_good 3 n [] [] g) hnd.2 (fun m hm => ?_), hf, drop_filter, List.filter_filter]
      · refine List.filter_congr (fun f _ => ?_)
        by_cases hfn : f.name = n
        · rw [hfn, hp]; simp
        · simp [hfn]
      · rw [hf, Dk.look_drop (a := n) (b := m) (fun e => hnd.1 (by rw [e]; exact hm))]
        exact h m (List.mem_cons_of_mem _ hm)
theorem rmvAll_filter (p : List UInt8 → Bool) {d : Disk} (hl : Lit d) (g : Dk.Good d) : (rmvAll p d).1 = 0 ∧ Lit (rmvAll p d).2 ∧ (rmvAll p d).2.files = d.files.filter fun f => !p f.name := by
  obtain ⟨h1, h2⟩ := hl.rmvAll p g
  refine ⟨h1, h2, ?_⟩
  unfold rmvAll
  rw [rmv_filter p (namesOf d) hl g (show (namesOf d).Nodup from rising_nodup g.rising) (fun n hn => ?_)]
  · refine List.filter_congr (fun f hf => ?_)
    have : f.name ∈ namesOf d := List.mem_map.2 ⟨f, hf, rfl⟩
    simp [this]
  · obtain ⟨f, hf, rfl⟩ := List.mem_map.1 hn
    rw [Dk.look_mem g.rising hf]
    rfl
/-- Cleaned twice: the second time nothing turns. -/
theorem filter_twice (p : List UInt8 → Bool) (l : List File) : (l.filter fun f => !p f.name).filter (fun f => !p f.name) = l.filter fun f => !p f.name := by
  rw [List.filter_filter]
  exact List.filter_congr (fun f _ => by simp)
/-- What a clean takes away is called as a segment, a version, a table that isn't named, or as what is being written. -/
theorem cln_gone {V : Ed.Ver} {n : List UInt8} (hn : clnP V.log (namesL V) n = true) : (n.length = 17 ∨ n = tmpN) ∧ ∀ m ∈ V.tabs, n ≠ [] → n ≠ calledL tabF m.num := by
  have len17 : ∀ fo : List UInt8, fo.length = 4 → inF fo n = true → n.length = 17 := fun fo hfo hi => by
    have h1 := tail_bad hi
    unfold inF at hi
    simp only [Bool.and_eq_true] at hi
    rw [h1, List.length_append, digs_len hi.1, hfo]
  unfold clnP at hn
  split at hn
  · rename_i hw
    refine ⟨.inl (len17 walF rfl hw), fun m _ _ e => ?_⟩
    have h1 := tail_bad hw
    rcases tab_called m.num with h2 | h2
    · rw [← e, h1] at h2
      simp [walF] at h2
    · rw [← e, h1] at h2
      simp [walF] at h2
  · simp only [Bool.and_eq_true, Bool.not_eq_true', decide_eq_false_iff_not, Bool.or_eq_true, beq_iff_eq] at hn
    refine ⟨?_, fun m hm h0 e => hn.1 ?_⟩
    · rcases hn.2 with (h1 | h1) | h1
      · exact .inr h1
      · exact .inl (len17 [109, 97, 110, 47] rfl h1)
      · exact .inl (len17 tabF rfl h1)
    · unfold namesL
      refine List.mem_mergeSort.2 (List.mem_cons.2 (.inr ?_))
      unfold tabsL
      rw [e]
      exact List.mem_map.2 ⟨m, hm, rfl⟩
theorem cln_tmp {V : Ed.Ver} (h : Ed.chk V = true) : clnP V.log (namesL V) tmpN = true := by
  have hno : tmpN ∉ namesL V := fun hx => by
    rcases called_mem hx with hx | hx | hx
    · unfold calledL at hx
      rw [if_pos (chk_seg h)] at hx
      exact manN_tmp V.gen hx.symm
    · cases hx
    · simp [tmpN] at hx
  unfold clnP
  rw [wal_tmp]
  simp [hno]
end Go.Proofs.YthnebhddakfadaaGreatDoor
namespace Go.Proofs.YthnebhddakfadaaGreatDoor
open Go.RowKit
open Dk (File Disk)

/-- How many files of a row stay. -/
def staysN (p : List UInt8 → Bool) (l : List File) : Nat := (l.filter fun f => !p f.name).length
theorem stays_next {p : List UInt8 → Bool} {l : List File} {t : Nat} {f : File} (hf : l[t]? = some f) : staysN p (l.take (t + 1)) = staysN p (l.take t) + if p f.name then 0 else 1 := by
  unfold staysN
  rw [List.take_add_one, hf, Option.toList_some, List.filter_append, List.length_append]
  cases h : p f.name <;> simp [h]
theorem stays_le (p : List UInt8 → Bool) (l : List File) (t : Nat) : staysN p (l.take t) ≤ l.length := by
  unfold staysN
  refine Nat.le_trans (List.length_filter_le _ _) ?_
  rw [List.length_take]
  omega
set_option maxHeartbeats 8000000 in
set_option maxRecDepth 100000 in
theorem cleans_walk (ao : Option Addr) (n c : Nat) (es : List Ent) (xp : Option Addr) (xn xc : Nat) (xgen xnext xlog xseq : Int) (xes : List MV) (w : World) (hs : RSrc fileKind w ao n c es) (hn : n ≤ 1073741824) (hb : bulk es ≤ 1152921504606846976) (hby : ∀ e ∈ es, e.bytes.length ≤ 140737488355328) (hnl : ∀ e ∈ es, e.name.length ≤ maxLen) (hx : VV.held w ⟨xp, xn, xc, xgen, xnext, xlog, xseq, xes⟩) (hg : Gl w) :
    Calls Tryz.prog 6 #[.slice ao n c, .agg #[.int .i64 xgen, .int .i64 xnext, .int .i64 xlog, .int .i64 xseq, .slice xp xn xc]] w fun e w' => e = .returned (.bool true) ∧ Below w.heap.size w w' := by
  obtain ⟨W1, hW1⟩ : ∃ W1, w.alloc (.cells #[.int .i64 xgen, .int .i64 xnext, .int .i64 xlog, .int .i64 xseq, .slice xp xn xc] 34) = W1 := ⟨_, rfl⟩
  have b1 : Hid (Below w.heap.size w W1) := by rw [← hW1]; exact (Below.refl _ _).alloc (Nat.le_refl _) _
  have g0 : Hid (W1.heap[w.heap.size]? = some (.cells #[.int .i64 xgen, .int .i64 xnext, .int .i64 xlog, .int .i64 xseq, .slice xp xn xc] 34)) := by rw [← hW1]; exact heap_alloc_new w _
  have BX : Hid (∀ w', Below W1.heap.size W1 w' → w'.cell? ⟨w.heap.size, 0, none⟩ = some (.int .i64 xgen) ∧ w'.cell? ⟨w.heap.size, 1, none⟩ = some (.int .i64 xnext) ∧ w'.cell? ⟨w.heap.size, 2, none⟩ = some (.int .i64 xlog) ∧ w'.cell? ⟨w.heap.size, 3, none⟩ = some (.int .i64 xseq) ∧ w'.cell? ⟨w.heap.size, 4, none⟩ = some (.slice xp xn xc)) := fun w' hb => ⟨below_cell hb (cell_of_row _ _ _ _ _ _ g0.out), below_cell hb (cell_of_row _ _ _ _ _ _ g0.out), below_cell hb (cell_of_row _ _ _ _ _ _ g0.out), below_cell hb (cell_of_row _ _ _ _ _ _ g0.out), below_cell hb (cell_of_row _ _ _ _ _ _ g0.out)⟩
  have UP : Hid (∀ w', Below W1.heap.size W1 w' → Below w.heap.size w w') := fun w' hb => b1.out.trans (hb.mono b1.out.size)
  have XH : Hid (∀ w', Below W1.heap.size W1 w' → VV.held w' ⟨xp, xn, xc, xgen, xnext, xlog, xseq, xes⟩) := fun w' hb => VV.held.below hx (UP.out w' hb)
  have HG : Hid (Gl W1) := hg.below b1.out
  have AW := keep (awake11 W1 HG.out)
  have HS : Hid (∀ w', Below W1.heap.size W1 w' → RSrc fileKind w' ao n c es) := fun w' hb => hs.below fileKind_ok (UP.out w' hb)
  have HB := keep hb
  have HBY := keep hby
  have HNL := keep hnl
  clear hs hb hby hnl hx hg
  go_enter Tryz.func6, Tryz.ntmps6
  go_wp2_with fail
  refine AW.out.mono ?_
  rintro e w1 ⟨rfl, hb1⟩
  have B1 := keep hb1
  have BO := keep (both_any 1099511627776 ao n c es w1 (HS.out w1 hb1) hn HB.out HBY.out HNL.out)
  clear hb1 AW hW1
  go_wp2_with fail
  refine BO.out.mono ?_
  rintro e w2 ⟨hb2, hr⟩
  have B2 := keep (B1.out.trans (hb2.mono B1.out.size))
  rcases hr with ⟨z, hz, rfl⟩ | ⟨S, b, d, q, hd, rfl, hm, hn3, hb0, _, _⟩
  · clear hz hb2 BO
    go_wp2
    go_ret
    exact ⟨rfl, UP.out _ B2.out⟩
  have D2 : Hid (DW W1 S w2 b d) := ⟨hm, fun g hg => by
    rcases hg with hg | hg
    · exact Nat.le_trans B1.out.size (hn3 g hg)
    · rw [hg]; exact Nat.le_trans B1.out.size hb0, B2.out, HG.out⟩
  have DN : Hid (d.done = 0 ∧ Lit d) := by
    obtain ⟨_, _, fs, _, h, _⟩ := ldOf_good hd
    show _ ∧ _
    rw [h]
    exact ⟨rfl, rfl, rfl⟩
  clear hd hm hn3 hb0 hb2 BO
  obtain ⟨a0, a1, a2, a3, a4⟩ := BX.out w2 D2.out.bel
  by_cases hbx : 100 < xn
  case pos =>
    have h1 : (100 : Int) < (xn : Int) := by omega
    go_wp2
    go_ret
    exact ⟨rfl, UP.out _ D2.out.bel⟩
  have hbx1 : ¬ (100 : Int) < (xn : Int) := by omega
  have XN : Hid (xn ≤ 100) := by show _ ≤ _; omega
  obtain ⟨V, hV⟩ : ∃ V, VV.v ⟨xp, xn, xc, xgen, xnext, xlog, xseq, xes⟩ = V := ⟨_, rfl⟩
  have HV := keep hV
  have VT : Hid (xes.map (·.m) = V.tabs) := by show _ = _; rw [← hV]; rfl
  clear hV hbx
  have MI := keep (mine11 ⟨xp, xn, xc, xgen, xnext, xlog, xseq, xes⟩ w2 (XH.out w2 D2.out.bel) (by have := XN.out; show xn ≤ _; omega))
  rw [HV.out] at MI
  unfold VV.val at MI
  simp only at MI
  go_wp2_with fail
  refine MI.out.mono ?_
  rintro e w3 ⟨t, rfl, ht, htv, htn, hb⟩
  have D3 := keep (D2.out.next hb)
  have CK := keep (vcheck_any t w3 ht)
  rw [htv] at CK
  obtain ⟨tp, tn, tc, tgen, tnext, tlog, tseq, tes⟩ := t
  unfold VV.val at CK
  simp only at CK
  try unfold VV.val
  try simp only
  clear ht htv htn hb MI
  go_wp2_with fail
  refine CK.out.mono ?_
  rintro e w4 ⟨rfl, hb4⟩
  have D4 := keep (D3.out.next hb4)
  clear hb4 CK a0 a1 a2 a3 a4
  cases hck : Ed.chk V with
  | false =>
    have e2 : chkN V = 1 := by unfold chkN; rw [hck]; rfl
    rw [e2]
    go_wp2
    go_ret
    exact ⟨rfl, UP.out _ D4.out.bel⟩
  | true =>
    have e2 : chkN V = 0 := by unfold chkN; rw [hck]; rfl
    have CHK := keep hck
    rw [e2]
    clear e2 hck
    obtain ⟨P, hP⟩ : ∃ P, clnP V.log (namesL V) = P := ⟨_, rfl⟩
    have PG : Hid (∀ nm : List UInt8, P nm = true → (nm.length = 17 ∨ nm = tmpN) ∧ ∀ m ∈ V.tabs, nm ≠ [] → nm ≠ calledL tabF m.num) := fun nm h => by rw [← hP] at h; exact cln_gone h
    have PT : Hid (P tmpN = true) := by show _ = _; rw [← hP]; exact cln_tmp CHK.out
    have CO : Hid (∀ D : Disk, cleanOf D V = rmvAll P D) := fun D => by unfold cleanOf; rw [CHK.out, hP]; rfl
    clear hP
    obtain ⟨N, hN⟩ : ∃ N, d.files.length = N := ⟨_, rfl⟩
    have HN := keep hN
    have NB : Hid (N ≤ 1099511627776) := by
      have h1 := used_ge d.files
      have h2 := D4.out.mem.good.room
      obtain ⟨_, _, _, h3⟩ := D4.out.mem
      have h4 := h3.capb
      show _ ≤ _
      omega
    have DU : Hid (Calls Tryz.prog 15 #[.pointer (some ⟨b, 0, none⟩)] w4 fun e w' => ∃ da c1 e1, e = .returned (.slice da N c1) ∧ Rows4 (Old w4.heap.size) w' da N c1 e1 d.files ∧ Below w4.heap.size w4 w') := by
      refine (dump_mem S b d w4 D4.out.mem).mono ?_
      rintro e w' ⟨da, c1, e1, rfl, _, h1, h2, h3⟩
      rw [HN.out] at h1 ⊢
      exact ⟨da, c1, e1, rfl, ⟨h1, h2, HN.out.symm⟩, h3⟩
    clear hN
    go_wp2_with fail
    refine DU.out.mono ?_
    rintro e w5 ⟨da, c1, e1, rfl, hr5, hb5⟩
    have R5 := keep hr5
    have D5 := keep (D4.out.next hb5)
    have S45 := keep hb5.size
    clear hr5 hb5 DU
    obtain ⟨a0, a1, a2, a3, a4⟩ := BX.out w5 D5.out.bel
    have MI := keep (mine11 ⟨xp, xn, xc, xgen, xnext, xlog, xseq, xes⟩ w5 (XH.out w5 D5.out.bel) (by have := XN.out; show xn ≤ _; omega))
    rw [HV.out] at MI
    unfold VV.val at MI
    simp only at MI
    go_wp2_with fail
    refine MI.out.mono ?_
    rintro e w6 ⟨t, rfl, ht, htv, htn, hb⟩
    have D6 := keep (D5.out.next hb)
    have R6 := keep (R5.out.below hb)
    have S56 := keep (Nat.le_trans S45.out hb.size)
    have CL := keep (clean_own S w6 b d t D6.out.mem ht (fun w' hk => HG.out.below (D6.out.gK hk)) (by rw [DN.out.1]; decide))
    rw [htv, CO.out, (rmvAll_filter P DN.out.2 D6.out.mem.good).1] at CL
    obtain ⟨tp, tn, tc, tgen, tnext, tlog, tseq, tes⟩ := t
    unfold VV.val at CL
    simp only at CL
    try unfold VV.val
    try simp only
    clear ht htv htn hb MI a0 a1 a2 a3 a4
    have FI := keep (rmvAll_filter P DN.out.2 D6.out.mem.good)
    have LK : Hid (∀ f ∈ d.files, (Dk.look (rmvAll P d).2.files f.name).isSome = !P f.name) := fun f hf => by
      cases hp : P f.name with
      | true =>
        rw [rmvAll_ok D6.out.mem.good FI.out.1 hp]
        rfl
      | false =>
        have hin : f ∈ (rmvAll P d).2.files := by rw [FI.out.2.2]; exact List.mem_filter.2 ⟨hf, by simp [hp]⟩
        rw [Dk.look_mem (rmvAll_far P D6.out.mem.good).good.rising hin]
        rfl
    have MN : Hid (∀ g, Go.Proofs.YthnebhddakfadaaGreatDoor.mine S b g → g < w4.heap.size) := fun g hg => by
      have h1 := D4.out.mem.lt
      rcases hg with hg | hg
      · exact h1.1 g hg
      · rw [hg]; exact h1.2.1
    have NMD : Hid (∀ f ∈ d.files, Dk.named f.name = true) := D6.out.mem.good.names
    have DE : Hid ((rmvAll P d).2.done ≤ 1099511627776) := by
      have h1 := (rmvAll_far P D6.out.mem.good).done
      obtain ⟨_, _, _, h3⟩ := D6.out.mem
      have h4 := h3.capb
      have h5 := DN.out.1
      show _ ≤ _
      omega
    obtain ⟨E, hE⟩ : ∃ E, (rmvAll P d).2 = E := ⟨_, rfl⟩
    rw [hE] at CL FI LK DE
    clear hE
    go_wp2_with fail
    refine CL.out.mono ?_
    rintro e w7 ⟨S7, rfl, hO7⟩
    have D7 := keep (D6.out.then hO7)
    have R7 := keep (R6.out.next (hO7.bel.wide (fun g _ hg => MN.out g hg)))
    clear hO7 CL
    go_wp2_with fail
    go_loopw [9, 10] (fun cn i wr => ∃ t : Nat, t ≤ N ∧ i = .int .i64 (t : Int) ∧ cn = .int .i64 ((staysN P (d.files.take t) : Nat) : Int) ∧ Hid (Below w7.heap.size w7 wr)) (fun _ i _ => N - (intOf i).toNat)
    case atStart => exact ⟨0, Nat.zero_le _, rfl, by simp [staysN], Below.refl _ _⟩
    case round =>
      obtain ⟨t, ht, rfl, rfl, hg⟩ := hrel
      have j0 : (0 : Int) ≤ (t : Int) := by omega
      have nb : N ≤ 1099511627776 := NB.out
      obtain ⟨K, hK⟩ : ∃ K, staysN P (d.files.take t) = K := ⟨_, rfl⟩
      have KN : Hid (K ≤ N) := by show _ ≤ _; rw [← hK, ← HN.out]; exact stays_le P d.files t
      have k0 : (0 : Int) ≤ (K : Int) := by omega
      have k1 : (K : Int) ≤ 1099511627776 := by have := KN.out; have := NB.out; omega
      have HK := keep hK
      rw [hK]
      clear hK
      rcases Nat.lt_or_ge t N with hlt | hge
      · have j1 : (t : Int) < (N : Int) := by omega
        obtain ⟨f, hf⟩ : ∃ f, d.files[t]? = some f := ⟨d.files[t]'(by rw [HN.out]; exact hlt), List.getElem?_eq_getElem _⟩
        have hmem := List.mem_of_getElem? hf
        have HST := keep (stays_next (p := P) hf)
        have HLK := keep (LK.out f hmem)
        have HNM := keep (named_true (NMD.out f hmem))
        obtain ⟨bb, off, rfl, _, hat⟩ := (R7.out.below hg.out).at_ (by omega)
        obtain ⟨p, k, _, c0, _, _⟩ := hat t f hf
        obtain ⟨nm, sf, fb⟩ := f
        simp only at HLK HST HNM c0
        have HA := keep (has_mem S7 b E nm wr (D7.out.next hg.out).mem (by have := HNM.out.2.1; unfold maxLen; omega))
        rw [HLK.out] at HA
        clear hat hf hmem
        cases hp : P nm with
        | false =>
          rw [hp] at HA
          have HS1 : Hid (staysN P (d.files.take (t + 1)) = K + 1) := by show _ = _; rw [HST.out, HK.out, hp]; rfl
          clear hp
          go_wp2_with fail
          refine HA.out.mono ?_
          rintro e w8 ⟨rfl, hb8⟩
          have B8 : Hid (Below w7.heap.size w7 w8) := hg.out.trans (hb8.mono hg.out.size)
          clear hb8 HA c0
          go_wp2
          go_roundw
          case rel => exact ⟨t + 1, by omega, by first | rfl | go_num, by rw [HS1.out]; first | rfl | go_num, B8⟩
          case measure => simp [intOf]; omega
        | true =>
          rw [hp] at HA
          have HS1 : Hid (staysN P (d.files.take (t + 1)) = K) := by show _ = _; rw [HST.out, HK.out, hp]; rfl
          have GO := keep (PG.out nm hp)
          have hnz : nm ≠ [] := fun e => by have := HNM.out.1; rw [e] at this; simp at this
          have NT : Hid (∀ m ∈ V.tabs, (nm == calledL tabF m.num) = false) := fun m hm => by simpa using GO.out.2 m hm hnz
          clear hp hnz
          go_wp2_with fail
          refine HA.out.mono ?_
          rintro e w8 ⟨rfl, hb8⟩
          have B8 : Hid (Below w7.heap.size w7 w8) := hg.out.trans (hb8.mono hg.out.size)
          clear hb8 HA c0 hg
          rcases GO.out.1 with hl | hl
          · have hl1 : (nm.length : Int) = 17 := by rw [hl]; rfl
            have hl1b : ((nm.length : Int) != 17) = false := by rw [hl]; rfl
            clear hl
            go_wp2_with fail
            go_loopw [12] (fun kk wq => ∃ j : Nat, j ≤ xn ∧ kk = .int .i64 (j : Int) ∧ Hid (Below w8.heap.size w8 wq)) (fun kk _ => xn - (intOf kk).toNat)
            case atStart => exact ⟨0, Nat.zero_le _, rfl, Below.refl _ _⟩
            case round =>
              obtain ⟨j, hj, rfl, hgj⟩ := hrel
              have i0 : (0 : Int) ≤ (j : Int) := by omega
              have B9 : Hid (Below w7.heap.size w7 wr) := B8.out.trans (hgj.out.mono B8.out.size)
              have D9 := keep (D7.out.next B9.out)
              obtain ⟨a0, a1, a2, a3, a4⟩ := BX.out wr D9.out.bel
              rcases Nat.lt_or_ge j xn with hjl | hjg
              · have i1 : (j : Int) < (xn : Int) := by omega
                have HX9 : RSrc metaKind wr xp xn xc xes := XH.out wr D9.out.bel
                obtain ⟨y, hy⟩ : ∃ y, xes[j]? = some y := ⟨xes[j]'(by rw [HX9.len]; exact hjl), List.getElem?_eq_getElem _⟩
                obtain ⟨xb, xo, rfl, _, _⟩ := HX9.form metaKind_ok (by omega)
                have MC := meta_cells HX9 hy
                have NE := keep (NT.out y.m (by rw [← VT.out]; exact List.mem_map.2 ⟨y, List.mem_of_getElem? hy, rfl⟩))
                obtain ⟨fp, fc, lp, lc, ⟨num, level, count, first, last⟩⟩ := y
                obtain ⟨c0, _, _, _, _⟩ := MC
                simp only at NE c0
                have TA := keep (table_any num wr (HG.out.below D9.out.bel).tab)
                clear hy HX9
                go_wp2_with fail
                refine TA.out.mono ?_
                rintro e w9 ⟨rfl, hb9⟩
                have B9' : Hid (Below w8.heap.size w8 w9) := hgj.out.trans (hb9.mono hgj.out.size)
                have ne1 := NE.out
                unfold tabF at ne1
                clear hb9 TA
                go_wp2
                go_roundw
                case rel => exact ⟨j + 1, by omega, by first | rfl | go_num, B9'⟩
                case measure => simp [intOf]; omega
              · have i1 : ¬ (j : Int) < (xn : Int) := by omega
                go_wp2
                go_roundw
                case rel => exact ⟨t + 1, by omega, by first | rfl | go_num, by rw [HS1.out], B9⟩
                case measure => simp [intOf]; omega
          · have hl1 : ¬ (nm.length : Int) = 17 := by rw [hl]; decide
            have hl1b : ((nm.length : Int) != 17) = true := by rw [hl]; rfl
            have hl2 : (nm == [99, 117, 114, 126]) = true := by rw [hl]; rfl
            clear hl
            go_wp2_with fail
            go_loopw [12] (fun kk wq => ∃ j : Nat, j ≤ xn ∧ kk = .int .i64 (j : Int) ∧ Hid (Below w8.heap.size w8 wq)) (fun kk _ => xn - (intOf kk).toNat)
            case atStart => exact ⟨0, Nat.zero_le _, rfl, Below.refl _ _⟩
            case round =>
              obtain ⟨j, hj, rfl, hgj⟩ := hrel
              have i0 : (0 : Int) ≤ (j : Int) := by omega
              have B9 : Hid (Below w7.heap.size w7 wr) := B8.out.trans (hgj.out.mono B8.out.size)
              have D9 := keep (D7.out.next B9.out)
              obtain ⟨a0, a1, a2, a3, a4⟩ := BX.out wr D9.out.bel
              rcases Nat.lt_or_ge j xn with hjl | hjg
              · have i1 : (j : Int) < (xn : Int) := by omega
                have HX9 : RSrc metaKind wr xp xn xc xes := XH.out wr D9.out.bel
                obtain ⟨y, hy⟩ : ∃ y, xes[j]? = some y := ⟨xes[j]'(by rw [HX9.len]; exact hjl), List.getElem?_eq_getElem _⟩
                obtain ⟨xb, xo, rfl, _, _⟩ := HX9.form metaKind_ok (by omega)
                have MC := meta_cells HX9 hy
                have NE := keep (NT.out y.m (by rw [← VT.out]; exact List.mem_map.2 ⟨y, List.mem_of_getElem? hy, rfl⟩))
                obtain ⟨fp, fc, lp, lc, ⟨num, level, count, first, last⟩⟩ := y
                obtain ⟨c0, _, _, _, _⟩ := MC
                simp only at NE c0
                have TA := keep (table_any num wr (HG.out.below D9.out.bel).tab)
                clear hy HX9
                go_wp2_with fail
                refine TA.out.mono ?_
                rintro e w9 ⟨rfl, hb9⟩
                have B9' : Hid (Below w8.heap.size w8 w9) := hgj.out.trans (hb9.mono hgj.out.size)
                have ne1 := NE.out
                unfold tabF at ne1
                clear hb9 TA
                go_wp2
                go_roundw
                case rel => exact ⟨j + 1, by omega, by first | rfl | go_num, B9'⟩
                case measure => simp [intOf]; omega
              · have i1 : ¬ (j : Int) < (xn : Int) := by omega
                go_wp2
                go_roundw
                case rel => exact ⟨t + 1, by omega, by first | rfl | go_num, by rw [HS1.out], B9⟩
                case measure => simp [intOf]; omega
      · obtain rfl : t = N := by omega
        have LE : Hid (E.files.length = K) := by
          show _ = _
          rw [FI.out.2.2, ← HK.out, List.take_of_length_le (by rw [HN.out]; exact Nat.le_refl _)]
          rfl
        have D9 := keep (D7.out.next hg.out)
        have NA : Hid (∀ (S' : Nat → Prop) (w' : World) (X : Disk), Mem S' w' b X → X.files.length = K → Calls Tryz.prog 28 #[.pointer (some ⟨b, 0, none⟩)] w' fun e w'' => (∃ na nc, e = .returned (.slice na K nc)) ∧ Below w'.heap.size w' w'') := fun S' w' X hm hl => by
          obtain ⟨ml, l, left, h⟩ := hm
          refine (names_mem S' b ml l left X w' h).mono ?_
          rintro e w'' ⟨na, nc, rfl, _, _, h2⟩
          rw [hl]
          exact ⟨⟨na, nc, rfl⟩, h2⟩
        go_wp2_with fail
        refine (NA.out S7 wr E D9.out.mem LE.out).mono ?_
        rintro e w10 ⟨⟨na, nc, rfl⟩, hb10⟩
        have D10 := keep (D9.out.next hb10)
        clear hb10
        obtain ⟨a0, a1, a2, a3, a4⟩ := BX.out w10 D10.out.bel
        have MI := keep (mine11 ⟨xp, xn, xc, xgen, xnext, xlog, xseq, xes⟩ w10 (XH.out w10 D10.out.bel) (by have := XN.out; show xn ≤ _; omega))
        rw [HV.out] at MI
        unfold VV.val at MI
        simp only at MI
        go_wp2_with fail
        refine MI.out.mono ?_
        rintro e w11 ⟨t, rfl, ht, htv, htn, hb⟩
        have D11 := keep (D10.out.next hb)
        have FI2 := keep (rmvAll_filter P FI.out.2.1 D11.out.mem.good)
        have CL2 := keep (clean_own S7 w11 b E t D11.out.mem ht (fun w' hk => HG.out.below (D11.out.gK hk)) (by have h := DE.out; omega))
        rw [htv, CO.out, FI2.out.1] at CL2
        have LE2 : Hid ((rmvAll P E).2.files.length = K) := by
          show _ = _
          rw [FI2.out.2.2, FI.out.2.2, filter_twice, ← FI.out.2.2]
          exact LE.out
        have LT2 : Hid ((Dk.look (rmvAll P E).2.files [99, 117, 114, 126]).isSome = false) := by
          show _ = _
          rw [show ([99, 117, 114, 126] : List UInt8) = tmpN from rfl, rmvAll_ok D11.out.mem.good FI2.out.1 PT.out]
          rfl
        obtain ⟨E2, hE2⟩ : ∃ E2, (rmvAll P E).2 = E2 := ⟨_, rfl⟩
        rw [hE2] at CL2 LE2 LT2
        obtain ⟨tp, tn, tc, tgen, tnext, tlog, tseq, tes⟩ := t
        unfold VV.val at CL2
        simp only at CL2
        try unfold VV.val
        try simp only
        clear ht htv htn hb MI a0 a1 a2 a3 a4 hE2 FI2
        go_wp2_with fail
        refine CL2.out.mono ?_
        rintro e w12 ⟨S12, rfl, hO12⟩
        have D12 := keep (D11.out.then hO12)
        clear hO12 CL2
        go_wp2_with fail
        refine (NA.out S12 w12 E2 D12.out.mem LE2.out).mono ?_
        rintro e w13 ⟨⟨na2, nc2, rfl⟩, hb13⟩
        have D13 := keep (D12.out.next hb13)
        have HA := keep (has_mem S12 b E2 [99, 117, 114, 126] w13 D13.out.mem (by decide))
        rw [LT2.out] at HA
        clear hb13
        go_wp2_with fail
        refine HA.out.mono ?_
        rintro e w14 ⟨rfl, hb14⟩
        have D14 := keep (D13.out.next hb14)
        clear hb14 HA
        go_wp2
        go_ret
        exact ⟨rfl, UP.out _ D14.out.bel⟩
end Go.Proofs.YthnebhddakfadaaGreatDoor
