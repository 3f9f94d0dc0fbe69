/- The walk of table's Parse. -/
/- What a parsed table holds, in one; what Get, First and Last tell of it, over plain lists; no walk. -/
import Derived.Test.YtjblicgbdecbcaaZQj
namespace Go.Proofs.Ytjblicgbdecbcaa
open Go.RowKit Go.Shelf
open Sk (Ent)

/-- Parse's answer. -/
def TParsed (w : World) (b : List UInt8) (e : Ending) (w' : World) : Prop :=
  (∃ (L : List Ent) (tb : Nat) (ds : List DE), Tq.tparse b = some L ∧ e = .returned (.tuple #[.pointer (some ⟨tb, 0, none⟩), .int .i64 0]) ∧ TDone w' tb ds (Tq.filtOf b) ∧ entsD ds = L ∧ ds.length ≤ 64 ∧ (∀ d ∈ ds, d.ys.length ≤ 64 ∧ ∀ y ∈ d.ys, y.e.key.length ≤ 64 ∧ y.e.val.length ≤ 1024) ∧ Below w.heap.size w w' ∧ ds.map (fun d => d.ys.map (·.e)) = (Tq.pieces b).map Tq.pl) ∨
  (Tq.tparse b = none ∧ e = .returned (.tuple #[.pointer none, .int .i64 2]) ∧ Below w.heap.size w w')
theorem ents_flat (ds : List DE) (ps : List PE) (b : List UInt8) (h : ds.map (fun d => d.ys.map (·.e)) = ps.map (fun p => Tq.pl p.raw)) (hp : ps.map (·.raw) = Tq.pieces b) : entsD ds = Tq.rd b := by
  unfold entsD Tq.rd
  rw [List.flatMap_def, h, ← hp, List.flatMap_def, List.map_map]
  rfl
theorem pl_small (p : List UInt8) : (Tq.pl p).length ≤ 64 ∧ ∀ e ∈ Tq.pl p, e.key.length ≤ 64 ∧ e.val.length ≤ 1024 := by
  unfold Tq.pl
  cases h : Bq.parse p with
  | none => exact ⟨Nat.zero_le _, fun e he => by cases he⟩
  | some l =>
    have h1 := (Bq.parse_some h).1
    refine ⟨Nat.le_trans (Bq.okB_len h1).2 (by decide), fun e he => ?_⟩
    have := Bq.may_bounds (Bq.okB_may h1 e he)
    exact ⟨this.2.1, this.2.2.2.2⟩
theorem pieces_few (b : List UInt8) : (Tq.pieces b).length ≤ 64 := by
  unfold Tq.pieces
  rw [Tq.readP_len]
  unfold Tq.pn
  omega
theorem small_of {ds : List DE} {ps : List PE} (h : ds.map (fun d => d.ys.map (·.e)) = ps.map (fun p => Tq.pl p.raw)) : ∀ d ∈ ds, d.ys.length ≤ 64 ∧ ∀ y ∈ d.ys, y.e.key.length ≤ 64 ∧ y.e.val.length ≤ 1024 := fun d hd => by
  have hm : d.ys.map (·.e) ∈ ps.map (fun p => Tq.pl p.raw) := by rw [← h]; exact List.mem_map_of_mem (f := fun d : DE => d.ys.map (·.e)) hd
  obtain ⟨p, _, e⟩ := List.mem_map.1 hm
  have h1 := pl_small p.raw
  rw [e] at h1
  exact ⟨by simpa using h1.1, fun y hy => h1.2 y.e (List.mem_map_of_mem hy)⟩
set_option maxHeartbeats 2000000 in
set_option maxRecDepth 100000 in
theorem tparse_any (ao : Option Addr) (m c : Nat) (b : List UInt8) (w : World) (hm : m ≤ 140737488355328) (hs : Src w ao m c b) :
    Calls Try.prog 9 #[.slice ao m c] w (TParsed w b) := by
  have RA := keep (read_any ao m c b w hm hs)
  have HS := keep hs
  clear hs
  go_enter Try.func9, Try.ntmps9
  go_wp2_with fail
  refine RA.out.mono ?_
  rintro e w1 ⟨tb, rfl, ps, hT, hp, hb1⟩
  have HP := keep hp
  have hpl : ps.length ≤ 64 := by
    have h1 := congrArg List.length hp
    rw [List.length_map] at h1
    have := pieces_few b
    omega
  have AF := keep (all_first tb ps _ w w1 hT hb1 hpl (fun p _ => pl_small p.raw))
  clear hT hp hb1 RA
  go_wp2_with fail
  refine AF.out.mono ?_
  rintro e w2 ⟨v, rfl, ds, ys, hE, hye, hde, hD, hb2⟩
  have SM := keep (small_of hde)
  have FL := keep (ents_flat ds ps b hde HP.out)
  have HDE : Hid (ds.map (fun d => d.ys.map (·.e)) = (Tq.pieces b).map Tq.pl) := by show _ = _; rw [hde, ← HP.out, List.map_map]; rfl
  have TD := keep hD
  have B2 := keep hb2
  have hdl : ds.length ≤ 64 := by
    have h1 := congrArg List.length hde
    rw [List.length_map, List.length_map] at h1
    omega
  have HDL := keep hdl
  obtain ⟨a2, c2, rfl, hs2, _⟩ := RSrc.own entKind_ok hE.row (fun y hy => (hE.each y hy).held)
  have BB := keep (tbuild_any a2 ys.length c2 ys w2 hs2 (fun y hy => by
    have hmm : y.e ∈ entsD ds := by rw [← hye]; exact List.mem_map_of_mem hy
    obtain ⟨d, hd, hy2⟩ := List.mem_flatMap.1 hmm
    obtain ⟨y2, hy3, e2⟩ := List.mem_map.1 hy2
    have := (SM.out d hd).2 y2 hy3
    rw [e2] at this
    omega))
  rw [hye, FL.out] at BB
  clear hE hye hde hD hb2 hs2 AF hdl hpl
  obtain ⟨n, hn⟩ : ∃ n, ys.length = n := ⟨_, rfl⟩
  rw [hn] at BB ⊢
  clear hn
  go_wp2_with fail
  refine BB.out.mono ?_
  rintro e w3 (⟨hok, a3, c3, rfl, ho3, hb3⟩ | ⟨hok, rfl, hb3⟩)
  · obtain ⟨_, _, e3, hs3, _⟩ := Src.of_own ho3
    cases e3
    have B3 := keep (B2.out.trans (hb3.mono B2.out.size))
    have T3 := keep (TD.out.below hb3)
    have EQ := keep (equal_any a3 _ c3 _ ao m c b w3 hs3 (HS.out.below B3.out))
    have OK := keep hok
    clear hs3 ho3 hb3 hok BB
    obtain ⟨nb, hnb⟩ : ∃ nb, (Tq.tab (Tq.rd b)).length = nb := ⟨_, rfl⟩
    rw [hnb] at EQ ⊢
    clear hnb
    by_cases hq : Tq.tab (Tq.rd b) = b
    · rw [decide_eq_true hq] at EQ
      have PS : Hid (Tq.tparse b = some (Tq.rd b)) := if_pos ⟨OK.out, hq⟩
      clear hq
      go_wp2_with fail
      refine EQ.out.mono ?_
      rintro e w4 ⟨rfl, rfl⟩
      go_wp2
      go_ret2
      exact .inl ⟨_, tb, ds, PS.out, rfl, T3.out, FL.out, HDL.out, SM.out, B3.out, HDE.out⟩
    · rw [decide_eq_false hq] at EQ
      have PS : Hid (Tq.tparse b = none) := Tq.tparse_no (fun h => hq h.2)
      clear hq
      go_wp2_with fail
      refine EQ.out.mono ?_
      rintro e w4 ⟨rfl, rfl⟩
      go_wp2
      go_ret2
      exact .inr ⟨PS.out, rfl, B3.out⟩
  · have B3 := keep (B2.out.trans (hb3.mono B2.out.size))
    have PS : Hid (Tq.tparse b = none) := Tq.tparse_no (fun h => by rw [hok] at h; cases h.1)
    clear hb3 hok BB
    go_wp2
    go_ret2
    exact .inr ⟨PS.out, rfl, B3.out⟩
end Go.Proofs.Ytjblicgbdecbcaa
namespace Go.Proofs.Ytjblicgbdecbcaa.Tq
open Go.Proofs.Ytjblicgbdecbcaa
open Go.Proofs.Ytjblicgbdecbcaa.Sk (Ent)

theorem pieces_pl {b : List UInt8} {l : List Ent} (h : tparse b = some l) : (pieces b).map pl = (List.range (cnt l.length)).map (grp l) := by
  obtain ⟨h1, h2⟩ := tparse_some h
  have h3 := (pieces_tab h1 []).1
  rw [List.append_nil, h2] at h3
  rw [h3]
  unfold blks
  rw [List.map_map]
  refine List.map_congr_left (fun k hk => ?_)
  show pl (Bq.blk (grp l k)) = _
  unfold pl
  rw [Bq.parse_blk (grp_ok h1 (List.mem_range.1 hk))]
  rfl
theorem filtOf_some {b : List UInt8} {l : List Ent} (h : tparse b = some l) : filtOf b = filt l := by
  obtain ⟨h1, h2⟩ := tparse_some h
  have h3 := (pieces_tab h1 []).2
  rwa [List.append_nil, h2] at h3
end Go.Proofs.Ytjblicgbdecbcaa.Tq
namespace Go.Proofs.Ytjblicgbdecbcaa
open Go.RowKit
open Sk (Ent)

/-- A table as Parse answers it. -/
structure TabD (w : World) (tb : Nat) (ds : List DE) (L : List Ent) : Prop where
  done : TDone w tb ds (Tq.filt L)
  ok : Tq.tok L = true
  ents : entsD ds = L
  few : ds.length ≤ 64
  small : ∀ d ∈ ds, d.ys.length ≤ 64 ∧ ∀ y ∈ d.ys, y.e.key.length ≤ 64 ∧ y.e.val.length ≤ 1024
  grps : ds.map (fun d => d.ys.map (·.e)) = (List.range (Tq.cnt L.length)).map (Tq.grp L)
theorem TabD.below {w w' : World} {tb : Nat} {ds : List DE} {L : List Ent} (h : TabD w tb ds L) (hb : Below w.heap.size w w') : TabD w' tb ds L := ⟨h.done.below hb, h.ok, h.ents, h.few, h.small, h.grps⟩
theorem TParsed.cases {w w' : World} {b : List UInt8} {e : Ending} (h : TParsed w b e w') :
    (∃ (L : List Ent) (tb : Nat) (ds : List DE), Tq.tparse b = some L ∧ e = .returned (.tuple #[.pointer (some ⟨tb, 0, none⟩), .int .i64 0]) ∧ TabD w' tb ds L ∧ Below w.heap.size w w') ∨
    (Tq.tparse b = none ∧ e = .returned (.tuple #[.pointer none, .int .i64 2]) ∧ Below w.heap.size w w') := by
  rcases h with ⟨L, tb, ds, h1, h2, h3, h4, h5, h6, h7, h8⟩ | h
  · refine .inl ⟨L, tb, ds, h1, h2, ⟨?_, (Tq.tparse_some h1).1, h4, h5, h6, ?_⟩, h7⟩
    · rw [← Tq.filtOf_some h1]; exact h3
    · rw [h8, Tq.pieces_pl h1]
  · exact .inr h
theorem TabD.got {w : World} {tb : Nat} {ds : List DE} {L : List Ent} (h : TabD w tb ds L) (key : List UInt8) (s : Int) : gotT ds (Tq.filt L) key s = verE L key s := by
  unfold gotT
  rw [h.ents]
  cases hh : Bl.has (Tq.filt L) key with
  | true => rfl
  | false =>
    rw [if_neg (by decide)]
    refine (List.find?_eq_none.2 (fun e he hv => ?_)).symm
    have hk : e.key = key := by
      unfold vers at hv
      simp at hv
      exact hv.1
    have h1 := Tq.has_key he
    rw [hk] at h1
    unfold Tq.filt at hh
    rw [hh] at h1
    cases h1
theorem TabD.len {w : World} {tb : Nat} {ds : List DE} {L : List Ent} (h : TabD w tb ds L) : ds.length = Tq.cnt L.length := by
  have := congrArg List.length h.grps
  simpa using this
theorem TabD.evs {w : World} {tb : Nat} {ds : List DE} {L : List Ent} (h : TabD w tb ds L) : (evsD ds).map (·.e) = L := by
  rw [← h.ents]
  unfold evsD entsD
  rw [List.map_flatMap]
theorem TabD.evs_len {w : World} {tb : Nat} {ds : List DE} {L : List Ent} (h : TabD w tb ds L) : (evsD ds).length = L.length := by
  have := congrArg List.length h.evs
  rwa [List.length_map] at this
theorem TabD.at {w : World} {tb : Nat} {ds : List DE} {L : List Ent} (h : TabD w tb ds L) {m : Nat} {d : DE} (hd : ds[m]? = some d) : d.ys.map (·.e) = Tq.grp L m := by
  have h1 : (ds.map (fun d => d.ys.map (·.e)))[m]? = some (d.ys.map (·.e)) := by rw [List.getElem?_map, hd]; rfl
  have hm : m < Tq.cnt L.length := by rw [← h.len]; exact (List.getElem?_eq_some_iff.1 hd).1
  rw [h.grps, List.getElem?_map, List.getElem?_range hm] at h1
  simpa using h1.symm
theorem TabD.first {w : World} {tb : Nat} {ds : List DE} {L : List Ent} (h : TabD w tb ds L) : ∃ d ds' y ys, ds = d :: ds' ∧ d.ys = y :: ys ∧ L[0]? = some y.e := by
  have hc := Tq.cnt_le h.ok
  have hl := Tq.tok_len h.ok
  have hlen := h.len
  match ds, hlen with
  | [], e => simp only [List.length_nil] at e; omega
  | d :: ds', _ =>
    have h1 := h.at (m := 0) rfl
    have h2 : (d.ys.map (·.e)).length = min 8 L.length := by rw [h1, Tq.grp_len]; simp
    have h3 : (d.ys.map (·.e))[0]? = L[0]? := by rw [h1]; unfold Tq.grp; rw [List.getElem?_take_of_lt (by omega), List.getElem?_drop]
    match hy : d.ys with
    | [] => rw [hy] at h2; simp at h2; omega
    | y :: ys =>
      rw [hy] at h3
      exact ⟨d, ds', y, ys, rfl, hy, by rw [← h3]; rfl⟩
theorem TabD.last {w : World} {tb : Nat} {ds : List DE} {L : List Ent} (h : TabD w tb ds L) : ∃ m q d y, ds.length = m + 1 ∧ ds[m]? = some d ∧ d.ys.length = q + 1 ∧ d.ys[q]? = some y ∧ L[L.length - 1]? = some y.e := by
  have hc := Tq.cnt_le h.ok
  have hl := Tq.tok_len h.ok
  have hlen := h.len
  obtain ⟨m, hm⟩ : ∃ m, ds.length = m + 1 := ⟨ds.length - 1, by omega⟩
  obtain ⟨d, hd⟩ : ∃ d, ds[m]? = some d := ⟨ds[m]'(by omega), List.getElem?_eq_getElem _⟩
  have h1 := h.at hd
  have hcm : Tq.cnt L.length = m + 1 := by omega
  unfold Tq.cnt at hcm
  have h2 : d.ys.length = L.length - 8 * m := by
    have := congrArg List.length h1
    rw [List.length_map, Tq.grp_len] at this
    omega
  obtain ⟨q, hq⟩ : ∃ q, d.ys.length = q + 1 := ⟨d.ys.length - 1, by omega⟩
  obtain ⟨y, hy⟩ : ∃ y, d.ys[q]? = some y := ⟨d.ys[q]'(by omega), List.getElem?_eq_getElem _⟩
  refine ⟨m, q, d, y, hm, hd, hq, hy, ?_⟩
  have h3 : (d.ys.map (·.e))[q]? = some y.e := by rw [List.getElem?_map, hy]; rfl
  rw [h1] at h3
  unfold Tq.grp at h3
  rw [List.getElem?_take_of_lt (by omega), List.getElem?_drop] at h3
  rw [← h3]
  congr 1
  omega
end Go.Proofs.Ytjblicgbdecbcaa
