/- A slice of bytes among the arguments, opened: what it holds, its length within the form's reach or the bound; no walk. -/
/- Files and operations as records: how they lie, and how they are opened among the arguments, of any program; no walk. -/
/- The arguments of RowsSigns opened: a tree, a head, a slice of texts; no walk. -/
import Derived.Test.YtogphpejdnhnjaaGreatDoorK
import Derived.OpenShut
import Derived.ShutString
import Derived.SizedLaws
import Derived.Carry
import Derived.JoinedCond
import Derived.Test.YtogphpejdnhnjaaGreatDoorRw
import Derived.Deep.Strs
import Derived.Test.YtogphpejdnhnjaaGreatDoorJoinEeb
namespace Go.Proofs.YtogphpejdnhnjaaGreatDoor
open Go.ChangeShapes Go.WideShapes Go.ChangeAt Go.RowKit

theorem laidOut : laidOutB Tryz.prog = true := by kernel_rfl
theorem cells5 : Tryz.prog.cellsOf 5 = 1 := by kernel_rfl
theorem bytes5 : Tryz.prog.bytesOf 5 = 1 := by kernel_rfl
def bl (zs : List Int) : List UInt8 := zs.map fun n => UInt8.ofNat n.toNat
theorem bl_at (zs : List Int) (i : Nat) (hi : i < zs.length) (hw : ∀ n ∈ zs, (Lit.int .u8 n).wf = true) : ((fn (bl zs) i).toNat : Int) = zs.getD i 0 := by
  have hz : zs.getD i 0 = zs[i] := by simp [List.getD, hi]
  have hb := hw zs[i] (List.getElem_mem hi)
  have hx : 0 ≤ zs[i] ∧ zs[i] ≤ 255 := by simpa [Lit.wf, IntKind.min, IntKind.max, IntKind.signed, IntKind.bits] using hb
  have e : fn (bl zs) i = UInt8.ofNat (zs[i]).toNat := by simp [fn, bl, List.getD, hi]
  rw [e, hz, UInt8.toNat_ofNat']
  omega
set_option maxRecDepth 100000 in
theorem open_bytes {H : Type} {enc : TypeId × Value → H} {W : World} {v : Value} {d : DataW H} {p : List MemPlace} {base : Nat} (hv : Value.okWide Tryz.prog W .any base 47 v) (h : DataW.Trod enc Tryz.prog W 0 (fun _ => true) true 47 v d p) :
    ∃ ao m c l, v = .slice ao m c ∧ Src W ao m c l ∧ c ≤ maxLen ∧ (d = .nil ∧ m = 0 ∨ ∃ elems spare, d = .slice elems spare ∧ elems.length + spare.length = c) := by
  obtain ⟨a0, len0, cap0, rfl⟩ := okWide_slice Tryz.underlying47 hv
  obtain ⟨fuel, hf⟩ := h
  rcases open_ints Tryz.underlying47 Tryz.underlying5 cells5 (by simpa [Value.cells] using hf) with ⟨hcs, hx⟩ | ⟨a, len, cap, zs, hcs, _, hl, hm, hz, hx, hcell, hwz⟩
  · simp at hcs
    obtain ⟨rfl, rfl, rfl⟩ := hcs
    refine ⟨none, 0, 0, [], rfl, Src.empty (fun _ => rfl), Nat.zero_le _, .inl ⟨?_, rfl⟩⟩
    cases hx; rfl
  · simp at hcs
    obtain ⟨rfl, rfl, rfl⟩ := hcs
    simp at hz
    refine ⟨some a, len0, cap0, bl (zs.take len0), rfl, ?_, hm, .inr ⟨_, _, by cases hx; rfl, ?_⟩⟩
    · refine ⟨by simp [bl]; omega, hl, (fun h => by cases h), fun ad had j u hu => ?_⟩
      cases had
      have hj : j < (bl (zs.take len0)).length := by
        have := (List.getElem?_eq_some_iff.1 hu).1
        rwa [bv_length] at this
      have hj2 : j < (zs.take len0).length := by simpa [bl] using hj
      rw [bv_at _ j hj] at hu
      cases hu
      rw [bl_at (zs.take len0) j hj2 (fun n hn => hwz n (List.mem_of_mem_take hn)), hcell j (by simp at hj2; omega)]
      congr 2
      have h1 : j < len0 := by simp at hj2; omega
      have h2 : j < zs.length := by simp at hj2; omega
      rw [List.getD_eq_getElem?_getD, List.getD_eq_getElem?_getD, List.getElem?_take, if_pos h1]
    · simp [lits]
      omega
theorem reach_bytes {H : Type} {ts : List TypeId} {ds : List (DataW H)} (h : (DataW.weightsEach Tryz.prog ts ds).all (· ≤ reachBytes) = true) {j : Nat} {d : DataW H} {m c : Nat} (ht : ts[j]? = some 47) (hd : ds[j]? = some d) (hmc : m ≤ c)
    (hs : d = .nil ∧ m = 0 ∨ ∃ elems spare, d = .slice elems spare ∧ elems.length + spare.length = c) : m ≤ 140737488351232 := by
  rcases hs with ⟨_, h0⟩ | ⟨elems, spare, rfl, hc⟩
  · omega
  · have := sized_slice h ht hd Tryz.underlying47
    rw [bytes5] at this
    unfold reachBytes at this
    omega
theorem i64_lt {n : Int} (h : (Lit.int .i64 n).wf = true) : -9223372036854775808 ≤ n ∧ n < 9223372036854775808 := by
  have h2 : -9223372036854775808 ≤ n ∧ n ≤ 9223372036854775807 := by simpa [Lit.wf, IntKind.min, IntKind.max, IntKind.signed, IntKind.bits] using h
  omega
theorem bulk_one {H : Type} (d : DataW H) : 1 ≤ Rows.uptoBulk d := by
  cases d with
  | lit l => cases l <;> simp [Rows.uptoBulk]
  | nil => simp [Rows.uptoBulk]
  | ptr d => simp [Rows.uptoBulk]
  | slice elems spare => simp [Rows.uptoBulk]
  | agg parts => simp [Rows.uptoBulk]
  | iface t d => simp [Rows.uptoBulk]
  | map entries => simp [Rows.uptoBulk]
  | held h => simp [Rows.uptoBulk]
theorem bulk_length {H : Type} (l : List (DataW H)) : l.length ≤ Rows.uptoBulkAll l := by
  induction l with
  | nil => simp [Rows.uptoBulkAll]
  | cons x r ih => have := bulk_one x; simp only [Rows.uptoBulkAll, List.length_cons]; omega
theorem bulk_bytes {H : Type} {d : DataW H} {m c : Nat} (hmc : m ≤ c) (hs : d = .nil ∧ m = 0 ∨ ∃ elems spare, d = .slice elems spare ∧ elems.length + spare.length = c) : m ≤ Rows.uptoBulk d := by
  rcases hs with ⟨_, h0⟩ | ⟨elems, spare, rfl, hc⟩
  · omega
  · have h1 := bulk_length elems
    have h2 := bulk_length spare
    simp only [Rows.uptoBulk]
    omega
theorem bulk_string {H : Type} (s : ByteArray) : s.size ≤ Rows.uptoBulk (DataW.lit (H := H) (.string s.data.toList)) := by
  have e : s.data.toList.length = s.size := by rw [Array.length_toList]; rfl
  simp only [Rows.uptoBulk]
  omega
theorem reach_string {H : Type} {ts : List TypeId} {ds : List (DataW H)} (h : (DataW.weightsEach Tryz.prog ts ds).all (· ≤ reachBytes) = true) {j : Nat} {s : ByteArray} (ht : ts[j]? = some 9) (hd : ds[j]? = some (.lit (.string s.data.toList))) : s.size ≤ 140737488351232 := by
  have := sized_string h ht hd
  have e : s.data.toList.length = s.size := by rw [Array.length_toList]; rfl
  unfold reachBytes at this
  omega
end Go.Proofs.YtogphpejdnhnjaaGreatDoor
namespace Go.Proofs.YtogphpejdnhnjaaGreatDoor
open Go.ChangeShapes Go.WideShapes Go.ChangeAt Go.RowKit Go.Deep

/-- A file as it lies in memory: where its bytes are, besides. -/
structure Ent where
  name : List UInt8
  safe : Int
  ptr : Option Addr
  cap : Nat
  bytes : List UInt8
def fileKind : Kind Ent where
  size := 3
  vals e := [.string ⟨e.name.toArray⟩, .int .i64 e.safe, .slice e.ptr e.bytes.length e.cap]
  held w e := Src w e.ptr e.bytes.length e.cap e.bytes
theorem fileKind_ok : fileKind.Ok :=
  ⟨by decide, fun _ => rfl, fun e u hu => by
    simp only [fileKind, List.mem_cons, List.not_mem_nil, or_false] at hu
    rcases hu with rfl | rfl | rfl <;> rfl, fun h hb => Src.below h hb⟩
/-- Numbers as records of one cell. -/
def intKind : Kind Int where
  size := 1
  vals z := [.int .i64 z]
  held _ _ := True
theorem intKind_ok : intKind.Ok :=
  ⟨by decide, fun _ => rfl, fun e u hu => by
    simp only [intKind, List.mem_cons, List.not_mem_nil, or_false] at hu
    subst hu
    rfl, fun _ _ => trivial⟩
/-- An operation as it lies in memory. -/
structure OpE where
  what : Int
  n : Int
  a : List UInt8
  b : List UInt8
  dptr : Option Addr
  dcap : Nat
  data : List UInt8
  pptr : Option Addr
  pcap : Nat
  picks : List Int
def opKind : Kind OpE where
  size := 6
  vals e := [.int .i64 e.what, .int .i64 e.n, .string ⟨e.a.toArray⟩, .string ⟨e.b.toArray⟩, .slice e.dptr e.data.length e.dcap, .slice e.pptr e.picks.length e.pcap]
  held w e := Src w e.dptr e.data.length e.dcap e.data ∧ RSrc intKind w e.pptr e.picks.length e.pcap e.picks
theorem opKind_ok : opKind.Ok :=
  ⟨by decide, fun _ => rfl, fun e u hu => by
    simp only [opKind, List.mem_cons, List.not_mem_nil, or_false] at hu
    rcases hu with rfl | rfl | rfl | rfl | rfl | rfl <;> rfl, fun h hb => ⟨h.1.below hb, h.2.below intKind_ok hb⟩⟩

/-- The types that records are made of. -/
structure BaseTypes (P : Program) (tS tI tB : TypeId) : Prop where
  str : P.underlying tS = some .string
  int : P.underlying tI = some (.int .i64)
  row : ∃ t5, P.underlying tB = some (.slice t5) ∧ P.underlying t5 = some (.int .u8) ∧ P.cellsOf t5 = 1
  cS : P.cellsOf tS = 1
  cI : P.cellsOf tI = 1
  cB : P.cellsOf tB = 1
theorem open_bytes_of {H : Type} {enc : TypeId × Value → H} {P : Program} {W : World} {n : Nat} {tB t5 : TypeId} {v : Value} {x : DataW H × List MemPlace} (hB : P.underlying tB = some (.slice t5)) (h5 : P.underlying t5 = some (.int .u8)) (c5 : P.cellsOf t5 = 1)
    (h : DataW.trod enc P W 0 (fun _ => true) true n tB [v] = some x) : ∃ ao m c l, v = .slice ao m c ∧ Src W ao m c l ∧ c ≤ maxLen ∧ m ≤ Rows.uptoBulk x.1 := by
  rcases open_ints hB h5 c5 h with ⟨hcs, hx⟩ | ⟨a, len, cap, zs, hcs, _, hl, hm, hz, hx, hcell, hwz⟩
  · simp only [List.cons.injEq, and_true] at hcs
    exact ⟨none, 0, 0, [], hcs, Src.empty (fun _ => rfl), Nat.zero_le _, Nat.zero_le _⟩
  · simp only [List.cons.injEq, and_true] at hcs
    simp at hz
    refine ⟨some a, len, cap, bl (zs.take len), hcs, ?_, hm, ?_⟩
    · refine ⟨by simp [bl]; omega, hl, (fun h => by cases h), fun ad had j u hu => ?_⟩
      cases had
      have hj : j < (bl (zs.take len)).length := by
        have := (List.getElem?_eq_some_iff.1 hu).1
        rwa [bv_length] at this
      have hj2 : j < (zs.take len).length := by simpa [bl] using hj
      rw [bv_at _ j hj] at hu
      cases hu
      rw [bl_at (zs.take len) j hj2 (fun n hn => hwz n (List.mem_of_mem_take hn)), hcell j (by simp at hj2; omega)]
      congr 2
      have h1 : j < len := by simp at hj2; omega
      rw [List.getD_eq_getElem?_getD, List.getD_eq_getElem?_getD, List.getElem?_take, if_pos h1]
    · rw [hx]
      have h1 := bulk_length (lits (H := H) .u8 (zs.take len))
      simp only [Rows.uptoBulk]
      have h2 : (lits (H := H) .u8 (zs.take len)).length = len := by simp [lits]; omega
      omega
/-- One file. -/
theorem open_ent {H : Type} {enc : TypeId × Value → H} {P : Program} {W : World} {n : Nat} {tF tS tI tB : TypeId} {cs : List Value} {x : DataW H × List MemPlace} (T : BaseTypes P tS tI tB) {f0 f1 f2 : Field} (hF : P.underlying tF = some (.struct #[f0, f1, f2])) (cF : P.cellsOf tF = 3) (k0 : f0.type = tS ∧ f0.offset = 0) (k1 : f1.type = tI ∧ f1.offset = 1) (k2 : f2.type = tB ∧ f2.offset = 2)
    (h : DataW.trod enc P W 0 (fun _ => true) true n tF cs = some x) :
    ∃ e : Ent, cs = fileKind.vals e ∧ fileKind.held W e ∧ e.cap ≤ maxLen ∧ (-9223372036854775808 ≤ e.safe ∧ e.safe < 9223372036854775808) ∧ e.name.length ≤ maxLen ∧ e.name.length + e.bytes.length + 1 ≤ Rows.uptoBulk x.1 := by
  obtain ⟨e0, o0⟩ := k0
  obtain ⟨e1, o1⟩ := k1
  obtain ⟨e2, o2⟩ := k2
  obtain ⟨t5, hB, h5, c5⟩ := T.row
  obtain ⟨y0, y1, y2, k, hx, hl, t0, t1, t2⟩ := trod_struct3 hF h
  rw [cF] at hl
  match cs, hl with
  | [v0, v1, v2], _ =>
    rw [e0, o0, T.cS] at t0
    rw [e1, o1, T.cI] at t1
    rw [e2, o2, T.cB] at t2
    simp at t0 t1 t2
    obtain ⟨s, hs, hy0, hsz⟩ := DataW.trod_string T.str t0
    obtain ⟨z, hz, hy1, hw⟩ := DataW.trod_int T.int t1
    obtain ⟨ao, m, c, l, hv, hsrc, hc, hbk⟩ := open_bytes_of hB h5 c5 t2
    simp only [List.cons.injEq, and_true] at hs hz
    have hm := hsrc.len
    have hsl : s.data.toList.length = s.size := by rw [Array.length_toList]; rfl
    refine ⟨⟨s.data.toList, z, ao, c, l⟩, ?_, ?_, hc, i64_lt hw, by show s.data.toList.length ≤ maxLen; omega, ?_⟩
    · rw [hs, hz, hv]
      simp only [fileKind]
      rw [hm]
    · show Src W ao l.length c l
      rw [hm]
      exact hsrc
    · rw [hx]
      simp only [Rows.uptoBulk, Rows.uptoBulkAll]
      have h0 : Rows.uptoBulk y0.1 = s.data.toList.length + 1 := by rw [hy0]; simp [Rows.uptoBulk]
      show s.data.toList.length + l.length + 1 ≤ _
      omega

theorem trod_struct6 {H : Type} {enc : TypeId × Value → H} {P : Program} {w : World} {base : Nat} {spare : Nat → Bool} {held : Bool} {t : TypeId} {f0 f1 f2 f3 f4 f5 : Field} {fuel : Nat} {cs : List Value} {x : DataW H × List MemPlace} (ht : P.underlying t = some (.struct #[f0, f1, f2, f3, f4, f5])) (h : DataW.trod enc P w base spare held fuel t cs = some x) :
    ∃ y0 y1 y2 y3 y4 y5 n, x.1 = .agg [y0.1, y1.1, y2.1, y3.1, y4.1, y5.1] ∧ cs.length = P.cellsOf t ∧ DataW.trod enc P w base spare held n f0.type ((cs.drop f0.offset).take (P.cellsOf f0.type)) = some y0 ∧
      DataW.trod enc P w base spare held n f1.type ((cs.drop f1.offset).take (P.cellsOf f1.type)) = some y1 ∧ DataW.trod enc P w base spare held n f2.type ((cs.drop f2.offset).take (P.cellsOf f2.type)) = some y2 ∧
      DataW.trod enc P w base spare held n f3.type ((cs.drop f3.offset).take (P.cellsOf f3.type)) = some y3 ∧ DataW.trod enc P w base spare held n f4.type ((cs.drop f4.offset).take (P.cellsOf f4.type)) = some y4 ∧
      DataW.trod enc P w base spare held n f5.type ((cs.drop f5.offset).take (P.cellsOf f5.type)) = some y5 := by
  obtain ⟨xs, n, _, rfl, hl, hlen, hf⟩ := DataW.trod_struct ht h
  match xs, hlen with
  | [y0, y1, y2, y3, y4, y5], _ => exact ⟨y0, y1, y2, y3, y4, y5, n, by simp, hl, by simpa using hf 0 f0 rfl, by simpa using hf 1 f1 rfl, by simpa using hf 2 f2 rfl, by simpa using hf 3 f3 rfl, by simpa using hf 4 f4 rfl, by simpa using hf 5 f5 rfl⟩
/-- A slice of numbers. -/
theorem open_ints_of {H : Type} {enc : TypeId × Value → H} {P : Program} {W : World} {n : Nat} {tN tI : TypeId} {v : Value} {x : DataW H × List MemPlace} (hN : P.underlying tN = some (.slice tI)) (hI : P.underlying tI = some (.int .i64)) (cI : P.cellsOf tI = 1)
    (h : DataW.trod enc P W 0 (fun _ => true) true n tN [v] = some x) : ∃ ao m c l, v = .slice ao m c ∧ RSrc intKind W ao m c l ∧ c ≤ maxLen ∧ (∀ z ∈ l, -9223372036854775808 ≤ z ∧ z < 9223372036854775808) ∧ m ≤ Rows.uptoBulk x.1 := by
  obtain ⟨ao, m, c, es, hv, hs, hc, hd⟩ := open_recs intKind_ok (Q := fun z d => d = .lit (.int .i64 z) ∧ (Lit.int .i64 z).wf = true) hN cI (fun m cs y hy => by
    obtain ⟨z, h1, h2, h3⟩ := DataW.trod_int hI hy
    exact ⟨z, h1, trivial, by rw [h2], h3⟩) h
  refine ⟨ao, m, c, es, hv, hs, hc, fun z hz => ?_, ?_⟩
  · obtain ⟨i, hi⟩ := List.getElem?_of_mem hz
    rcases hd with ⟨h0, _⟩ | ⟨ds, sp, _, hl, _, hq⟩
    · have := (List.getElem?_eq_some_iff.1 hi).1
      rw [hs.len, h0] at this
      omega
    · have hlt := (List.getElem?_eq_some_iff.1 hi).1
      rw [hs.len, ← hl] at hlt
      exact i64_lt (hq i z _ hi (List.getElem?_eq_getElem hlt)).2
  · rcases hd with ⟨h0, _⟩ | ⟨ds, sp, hx, hl, _, _⟩
    · omega
    · rw [hx]
      have := bulk_length ds
      simp only [Rows.uptoBulk]
      omega
/-- One operation. -/
theorem open_op {H : Type} {enc : TypeId × Value → H} {P : Program} {W : World} {n : Nat} {tO tS tI tB tN : TypeId} {cs : List Value} {x : DataW H × List MemPlace} (T : BaseTypes P tS tI tB) (hN : P.underlying tN = some (.slice tI)) (cN : P.cellsOf tN = 1)
    {f0 f1 f2 f3 f4 f5 : Field} (hO : P.underlying tO = some (.struct #[f0, f1, f2, f3, f4, f5])) (cO : P.cellsOf tO = 6) (k0 : f0.type = tI ∧ f0.offset = 0) (k1 : f1.type = tI ∧ f1.offset = 1) (k2 : f2.type = tS ∧ f2.offset = 2) (k3 : f3.type = tS ∧ f3.offset = 3) (k4 : f4.type = tB ∧ f4.offset = 4) (k5 : f5.type = tN ∧ f5.offset = 5)
    (h : DataW.trod enc P W 0 (fun _ => true) true n tO cs = some x) :
    ∃ e : OpE, cs = opKind.vals e ∧ opKind.held W e ∧ ((-9223372036854775808 ≤ e.what ∧ e.what < 9223372036854775808) ∧ (-9223372036854775808 ≤ e.n ∧ e.n < 9223372036854775808) ∧ (∀ z ∈ e.picks, -9223372036854775808 ≤ z ∧ z < 9223372036854775808) ∧
      e.a.length ≤ maxLen ∧ e.b.length ≤ maxLen ∧ e.dcap ≤ maxLen ∧ e.pcap ≤ maxLen ∧ e.a.length + e.b.length + e.data.length + e.picks.length + 1 ≤ Rows.uptoBulk x.1) := by
  obtain ⟨y0, y1, y2, y3, y4, y5, q, hx, hl, t0, t1, t2, t3, t4, t5⟩ := trod_struct6 hO h
  obtain ⟨e0, o0⟩ := k0
  obtain ⟨e1, o1⟩ := k1
  obtain ⟨e2, o2⟩ := k2
  obtain ⟨e3, o3⟩ := k3
  obtain ⟨e4, o4⟩ := k4
  obtain ⟨e5, o5⟩ := k5
  obtain ⟨u5, hB, h5, c5⟩ := T.row
  rw [cO] at hl
  match cs, hl with
  | [v0, v1, v2, v3, v4, v5], _ =>
    rw [e0, o0, T.cI] at t0
    rw [e1, o1, T.cI] at t1
    rw [e2, o2, T.cS] at t2
    rw [e3, o3, T.cS] at t3
    rw [e4, o4, T.cB] at t4
    rw [e5, o5, cN] at t5
    simp at t0 t1 t2 t3 t4 t5
    obtain ⟨z0, hz0, _, w0⟩ := DataW.trod_int T.int t0
    obtain ⟨z1, hz1, _, w1⟩ := DataW.trod_int T.int t1
    obtain ⟨s2, hs2, hy2, hq2⟩ := DataW.trod_string T.str t2
    obtain ⟨s3, hs3, hy3, hq3⟩ := DataW.trod_string T.str t3
    obtain ⟨a4, m4, c4, l4, hv4, g4, hc4, hb4⟩ := open_bytes_of hB h5 c5 t4
    obtain ⟨a5, m5, c5', l5, hv5, g5, hc5, hw5, hb5⟩ := open_ints_of hN T.int T.cI t5
    simp only [List.cons.injEq, and_true] at hz0 hz1 hs2 hs3
    have hm4 := g4.len
    have hm5 := g5.len
    have l2 : s2.data.toList.length = s2.size := by rw [Array.length_toList]; rfl
    have l3 : s3.data.toList.length = s3.size := by rw [Array.length_toList]; rfl
    refine ⟨⟨z0, z1, s2.data.toList, s3.data.toList, a4, c4, l4, a5, c5', l5⟩, ?_, ⟨?_, ?_⟩, i64_lt w0, i64_lt w1, hw5, by show s2.data.toList.length ≤ maxLen; omega, by show s3.data.toList.length ≤ maxLen; omega, hc4, hc5, ?_⟩
    · rw [hz0, hz1, hs2, hs3, hv4, hv5]
      simp only [opKind]
      rw [hm4, hm5]
    · show Src W a4 l4.length c4 l4
      rw [hm4]
      exact g4
    · show RSrc intKind W a5 l5.length c5' l5
      rw [hm5]
      exact g5
    · rw [hx]
      have h2 : Rows.uptoBulk y2.1 = s2.data.toList.length + 1 := by rw [hy2]; simp [Rows.uptoBulk]
      have h3 : Rows.uptoBulk y3.1 = s3.data.toList.length + 1 := by rw [hy3]; simp [Rows.uptoBulk]
      simp only [Rows.uptoBulk, Rows.uptoBulkAll]
      show s2.data.toList.length + s3.data.toList.length + l4.length + l5.length + 1 ≤ _
      omega
end Go.Proofs.YtogphpejdnhnjaaGreatDoor
namespace Go.Proofs.YtogphpejdnhnjaaGreatDoor
open Go.ChangeShapes Go.WideShapes Go.ChangeAt Go.RowKit Go.Deep

theorem weights_at {H : Type} {P : Program} : ∀ {ts : List TypeId} {ds : List (DataW H)} {j : Nat} {t : TypeId} {d : DataW H}, (DataW.weightsEach P ts ds).all (· ≤ reachBytes) = true → ts[j]? = some t → ds[j]? = some d → (d.weights P t).all (· ≤ reachBytes) = true
  | t0 :: ts, d0 :: ds, 0, t, d, h, ht, hd => by
    simp only [List.getElem?_cons_zero, Option.some.injEq] at ht hd
    subst ht hd
    simp only [DataW.weightsEach, List.all_append, Bool.and_eq_true] at h
    exact h.1
  | t0 :: ts, d0 :: ds, j + 1, t, d, h, ht, hd => by
    simp only [List.getElem?_cons_succ] at ht hd
    simp only [DataW.weightsEach, List.all_append, Bool.and_eq_true] at h
    exact weights_at h.2 ht hd
  | [], _, _, _, _, _, ht, _ => by simp at ht
  | _ :: _, [], _, _, _, _, _, hd => by simp at hd
theorem trod_five {H : Type} {enc : TypeId × Value → H} {P : Program} {w : World} {base : Nat} {spare : Nat → Bool} {held : Bool} {t : TypeId} {f0 f1 f2 f3 f4 : Field} {fuel : Nat} {cs : List Value} {x : DataW H × List MemPlace} (ht : P.underlying t = some (.struct #[f0, f1, f2, f3, f4])) (h : DataW.trod enc P w base spare held fuel t cs = some x) :
    ∃ y0 y1 y2 y3 y4 n, x.1 = .agg [y0.1, y1.1, y2.1, y3.1, y4.1] ∧ cs.length = P.cellsOf t ∧ DataW.trod enc P w base spare held n f0.type ((cs.drop f0.offset).take (P.cellsOf f0.type)) = some y0 ∧
      DataW.trod enc P w base spare held n f1.type ((cs.drop f1.offset).take (P.cellsOf f1.type)) = some y1 ∧ DataW.trod enc P w base spare held n f2.type ((cs.drop f2.offset).take (P.cellsOf f2.type)) = some y2 ∧
      DataW.trod enc P w base spare held n f3.type ((cs.drop f3.offset).take (P.cellsOf f3.type)) = some y3 ∧ DataW.trod enc P w base spare held n f4.type ((cs.drop f4.offset).take (P.cellsOf f4.type)) = some y4 := by
  obtain ⟨xs, n, _, rfl, hl, hlen, hf⟩ := DataW.trod_struct ht h
  match xs, hlen with
  | [y0, y1, y2, y3, y4], _ => exact ⟨y0, y1, y2, y3, y4, n, by simp, hl, by simpa using hf 0 f0 rfl, by simpa using hf 1 f1 rfl, by simpa using hf 2 f2 rfl, by simpa using hf 3 f3 rfl, by simpa using hf 4 f4 rfl⟩
theorem agg_cells {v : Value} {l : List Value} (h : v.cells.toList = l) (hl : l.length ≠ 1) : v = .agg l.toArray := by
  cases v with
  | agg cs => simp only [Value.cells] at h; subst h; rfl
  | _ => simp only [Value.cells] at h; subst h; exact absurd rfl hl
theorem str_of (s : ByteArray) : Value.string s = .string ⟨s.data.toList.toArray⟩ := by cases s; simp
theorem c3 : Tryz.prog.cellsOf 3 = 1 := by kernel_rfl
theorem c9 : Tryz.prog.cellsOf 9 = 1 := by kernel_rfl
theorem c24 : Tryz.prog.cellsOf 24 = 1 := by kernel_rfl
theorem tree_fields : ∃ f0 f1 f2 f3 f4, Tryz.prog.underlying 23 = some (.struct #[f0, f1, f2, f3, f4]) ∧ (f0.type = 3 ∧ f0.offset = 0) ∧ (f1.type = 3 ∧ f1.offset = 1) ∧ (f2.type = 3 ∧ f2.offset = 2) ∧ (f3.type = 9 ∧ f3.offset = 3) ∧ (f4.type = 9 ∧ f4.offset = 4) :=
  ⟨_, _, _, _, _, Tryz.underlying23, ⟨rfl, rfl⟩, ⟨rfl, rfl⟩, ⟨rfl, rfl⟩, ⟨rfl, rfl⟩, ⟨rfl, rfl⟩⟩
theorem head_fields : ∃ f0 f1 f2 f3 f4 f5, Tryz.prog.underlying 26 = some (.struct #[f0, f1, f2, f3, f4, f5]) ∧ (f0.type = 3 ∧ f0.offset = 0) ∧ (f1.type = 9 ∧ f1.offset = 1) ∧ (f2.type = 3 ∧ f2.offset = 2) ∧ (f3.type = 3 ∧ f3.offset = 3) ∧ (f4.type = 24 ∧ f4.offset = 4) ∧ (f5.type = 9 ∧ f5.offset = 5) :=
  ⟨_, _, _, _, _, _, Tryz.underlying26, ⟨rfl, rfl⟩, ⟨rfl, rfl⟩, ⟨rfl, rfl⟩, ⟨rfl, rfl⟩, ⟨rfl, rfl⟩, ⟨rfl, rfl⟩⟩
theorem cT : Tryz.prog.cellsOf 23 = 5 := by kernel_rfl
theorem cH : Tryz.prog.cellsOf 26 = 6 := by kernel_rfl
set_option maxRecDepth 100000 in
/-- A tree. -/
theorem open_tree {H : Type} {enc : TypeId × Value → H} {W : World} {v : Value} {d : DataW H} {p : List MemPlace} {ts : List TypeId} {ds : List (DataW H)} {j : Nat} (hsz : (DataW.weightsEach Tryz.prog ts ds).all (· ≤ reachBytes) = true) (ht : ts[j]? = some 23) (hd : ds[j]? = some d) (h : DataW.Trod enc Tryz.prog W 0 (fun _ => true) true 23 v d p) :
    ∃ (i s q : Int) (nm key : List UInt8), v = .agg #[.int .i64 i, .int .i64 s, .int .i64 q, .string ⟨nm.toArray⟩, .string ⟨key.toArray⟩] ∧ key.length ≤ 140737488351232 := by
  obtain ⟨f0, f1, f2, f3, f4, hF, ⟨e0, o0⟩, ⟨e1, o1⟩, ⟨e2, o2⟩, ⟨e3, o3⟩, ⟨e4, o4⟩⟩ := tree_fields
  obtain ⟨fuel, hf⟩ := h
  obtain ⟨y0, y1, y2, y3, y4, k, hx, hl, t0, t1, t2, t3, t4⟩ := trod_five hF hf
  rw [cT] at hl
  have hw := weights_at hsz ht hd
  obtain ⟨cs, hcs⟩ : ∃ cs, v.cells.toList = cs := ⟨_, rfl⟩
  rw [hcs] at hl t0 t1 t2 t3 t4
  match cs, hl, hcs, t0, t1, t2, t3, t4 with
  | [v0, v1, v2, v3, v4], _, hcs, t0, t1, t2, t3, t4 =>
    rw [e0, o0, c3] at t0
    rw [e1, o1, c3] at t1
    rw [e2, o2, c3] at t2
    rw [e3, o3, c9] at t3
    rw [e4, o4, c9] at t4
    simp at t0 t1 t2 t3 t4
    obtain ⟨z0, hz0, _, _⟩ := DataW.trod_int Tryz.underlying3 t0
    obtain ⟨z1, hz1, _, _⟩ := DataW.trod_int Tryz.underlying3 t1
    obtain ⟨z2, hz2, _, _⟩ := DataW.trod_int Tryz.underlying3 t2
    obtain ⟨s3, hs3, _, _⟩ := DataW.trod_string Tryz.underlying9 t3
    obtain ⟨s4, hs4, hy4, _⟩ := DataW.trod_string Tryz.underlying9 t4
    simp only [List.cons.injEq, and_true] at hz0 hz1 hz2 hs3 hs4
    refine ⟨z0, z1, z2, s3.data.toList, s4.data.toList, ?_, ?_⟩
    · rw [agg_cells hcs (by simp), hz0, hz1, hz2, hs3, hs4, str_of s3, str_of s4]
    · have hx' : d = .agg [y0.1, y1.1, y2.1, y3.1, y4.1] := hx
      rw [hx'] at hw
      simp only [DataW.weights, hF] at hw
      have := reach_string (j := 4) (s := s4) hw (by simp [e4]) (by simp [hy4])
      have hl4 : s4.data.toList.length = s4.size := by rw [Array.length_toList]; rfl
      omega
set_option maxRecDepth 100000 in
/-- A head. -/
theorem open_head {H : Type} {enc : TypeId × Value → H} {W : World} {v : Value} {d : DataW H} {p : List MemPlace} {ts : List TypeId} {ds : List (DataW H)} {j : Nat} (hsz : (DataW.weightsEach Tryz.prog ts ds).all (· ≤ reachBytes) = true) (ht : ts[j]? = some 26) (hd : ds[j]? = some d) (h : DataW.Trod enc Tryz.prog W 0 (fun _ => true) true 26 v d p) :
    ∃ (sz tk ep : Int) (rt sg : List UInt8) (na : Option Addr) (nn nc : Nat), v = .agg #[.int .i64 sz, .string ⟨rt.toArray⟩, .int .i64 tk, .int .i64 ep, .slice na nn nc, .string ⟨sg.toArray⟩] ∧ rt.length ≤ 140737488351232 := by
  obtain ⟨f0, f1, f2, f3, f4, f5, hF, ⟨e0, o0⟩, ⟨e1, o1⟩, ⟨e2, o2⟩, ⟨e3, o3⟩, ⟨e4, o4⟩, ⟨e5, o5⟩⟩ := head_fields
  obtain ⟨fuel, hf⟩ := h
  obtain ⟨y0, y1, y2, y3, y4, y5, k, hx, hl, t0, t1, t2, t3, t4, t5⟩ := trod_struct6 hF hf
  rw [cH] at hl
  have hw := weights_at hsz ht hd
  obtain ⟨cs, hcs⟩ : ∃ cs, v.cells.toList = cs := ⟨_, rfl⟩
  rw [hcs] at hl t0 t1 t2 t3 t4 t5
  match cs, hl, hcs, t0, t1, t2, t3, t4, t5 with
  | [v0, v1, v2, v3, v4, v5], _, hcs, t0, t1, t2, t3, t4, t5 =>
    rw [e0, o0, c3] at t0
    rw [e1, o1, c9] at t1
    rw [e2, o2, c3] at t2
    rw [e3, o3, c3] at t3
    rw [e4, o4, c24] at t4
    rw [e5, o5, c9] at t5
    simp at t0 t1 t2 t3 t4 t5
    obtain ⟨z0, hz0, _, _⟩ := DataW.trod_int Tryz.underlying3 t0
    obtain ⟨s1, hs1, hy1, _⟩ := DataW.trod_string Tryz.underlying9 t1
    obtain ⟨z2, hz2, _, _⟩ := DataW.trod_int Tryz.underlying3 t2
    obtain ⟨z3, hz3, _, _⟩ := DataW.trod_int Tryz.underlying3 t3
    obtain ⟨s5, hs5, _, _⟩ := DataW.trod_string Tryz.underlying9 t5
    obtain ⟨na, nn, nc, hv4⟩ : ∃ na nn nc, v4 = .slice na nn nc := by
      rcases open_slice Tryz.underlying24 t4 with ⟨hc, _⟩ | ⟨_, _, _, _, _, _, _, hc, _⟩
      · simp only [List.cons.injEq, and_true] at hc; exact ⟨_, _, _, hc⟩
      · simp only [List.cons.injEq, and_true] at hc; exact ⟨_, _, _, hc⟩
    simp only [List.cons.injEq, and_true] at hz0 hs1 hz2 hz3 hs5
    refine ⟨z0, z2, z3, s1.data.toList, s5.data.toList, na, nn, nc, ?_, ?_⟩
    · rw [agg_cells hcs (by simp), hz0, hs1, hz2, hz3, hv4, hs5, str_of s1, str_of s5]
    · have hx' : d = .agg [y0.1, y1.1, y2.1, y3.1, y4.1, y5.1] := hx
      rw [hx'] at hw
      simp only [DataW.weights, hF] at hw
      have := reach_string (j := 1) (s := s1) hw (by simp [e1]) (by simp [hy1])
      have hl1 : s1.data.toList.length = s1.size := by rw [Array.length_toList]; rfl
      omega
end Go.Proofs.YtogphpejdnhnjaaGreatDoor
