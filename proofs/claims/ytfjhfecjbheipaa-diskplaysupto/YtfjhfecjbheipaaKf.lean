/- Files and operations as records: how they lie, and how they are opened among the arguments, of any program; no walk. -/
import Derived.Test.YtfjhfecjbheipaaRw
import Derived.Test.YtfjhfecjbheipaaO
import Derived.Deep.Strs
namespace Go.Proofs.Ytfjhfecjbheipaa
open Go.ChangeShapes Go.WideShapes Go.ChangeAt Go.RowKit Go.Deep

/-- A file as it lies in memory: where its bytes are, besides. -/
structure Ent where
  name : List UInt8
  safe : Int
  ptr : Option Addr
  cap : Nat
  bytes : List UInt8
def fileKind : Kind Ent where
  size := 3
  vals e := [.string ⟨e.name.toArray⟩, .int .i64 e.safe, .slice e.ptr e.bytes.length e.cap]
  held w e := Src w e.ptr e.bytes.length e.cap e.bytes
theorem fileKind_ok : fileKind.Ok :=
  ⟨by decide, fun _ => rfl, fun e u hu => by
    simp only [fileKind, List.mem_cons, List.not_mem_nil, or_false] at hu
    rcases hu with rfl | rfl | rfl <;> rfl, fun h hb => Src.below h hb⟩
/-- Numbers as records of one cell. -/
def intKind : Kind Int where
  size := 1
  vals z := [.int .i64 z]
  held _ _ := True
theorem intKind_ok : intKind.Ok :=
  ⟨by decide, fun _ => rfl, fun e u hu => by
    simp only [intKind, List.mem_cons, List.not_mem_nil, or_false] at hu
    subst hu
    rfl, fun _ _ => trivial⟩
/-- An operation as it lies in memory. -/
structure OpE where
  what : Int
  n : Int
  a : List UInt8
  b : List UInt8
  dptr : Option Addr
  dcap : Nat
  data : List UInt8
  pptr : Option Addr
  pcap : Nat
  picks : List Int
def opKind : Kind OpE where
  size := 6
  vals e := [.int .i64 e.what, .int .i64 e.n, .string ⟨e.a.toArray⟩, .string ⟨e.b.toArray⟩, .slice e.dptr e.data.length e.dcap, .slice e.pptr e.picks.length e.pcap]
  held w e := Src w e.dptr e.data.length e.dcap e.data ∧ RSrc intKind w e.pptr e.picks.length e.pcap e.picks
theorem opKind_ok : opKind.Ok :=
  ⟨by decide, fun _ => rfl, fun e u hu => by
    simp only [opKind, List.mem_cons, List.not_mem_nil, or_false] at hu
    rcases hu with rfl | rfl | rfl | rfl | rfl | rfl <;> rfl, fun h hb => ⟨h.1.below hb, h.2.below intKind_ok hb⟩⟩

/-- The types that records are made of. -/
structure BaseTypes (P : Program) (tS tI tB : TypeId) : Prop where
  str : P.underlying tS = some .string
  int : P.underlying tI = some (.int .i64)
  row : ∃ t5, P.underlying tB = some (.slice t5) ∧ P.underlying t5 = some (.int .u8) ∧ P.cellsOf t5 = 1
  cS : P.cellsOf tS = 1
  cI : P.cellsOf tI = 1
  cB : P.cellsOf tB = 1
theorem open_bytes_of {H : Type} {enc : TypeId × Value → H} {P : Program} {W : World} {n : Nat} {tB t5 : TypeId} {v : Value} {x : DataW H × List MemPlace} (hB : P.underlying tB = some (.slice t5)) (h5 : P.underlying t5 = some (.int .u8)) (c5 : P.cellsOf t5 = 1)
    (h : DataW.trod enc P W 0 (fun _ => true) true n tB [v] = some x) : ∃ ao m c l, v = .slice ao m c ∧ Src W ao m c l ∧ c ≤ maxLen ∧ m ≤ Rows.uptoBulk x.1 := by
  rcases open_ints hB h5 c5 h with ⟨hcs, hx⟩ | ⟨a, len, cap, zs, hcs, _, hl, hm, hz, hx, hcell, hwz⟩
  · simp only [List.cons.injEq, and_true] at hcs
    exact ⟨none, 0, 0, [], hcs, Src.empty (fun _ => rfl), Nat.zero_le _, Nat.zero_le _⟩
  · simp only [List.cons.injEq, and_true] at hcs
    simp at hz
    refine ⟨some a, len, cap, bl (zs.take len), hcs, ?_, hm, ?_⟩
    · refine ⟨by simp [bl]; omega, hl, (fun h => by cases h), fun ad had j u hu => ?_⟩
      cases had
      have hj : j < (bl (zs.take len)).length := by
        have := (List.getElem?_eq_some_iff.1 hu).1
        rwa [bv_length] at this
      have hj2 : j < (zs.take len).length := by simpa [bl] using hj
      rw [bv_at _ j hj] at hu
      cases hu
      rw [bl_at (zs.take len) j hj2 (fun n hn => hwz n (List.mem_of_mem_take hn)), hcell j (by simp at hj2; omega)]
      congr 2
      have h1 : j < len := by simp at hj2; omega
      rw [List.getD_eq_getElem?_getD, List.getD_eq_getElem?_getD, List.getElem?_take, if_pos h1]
    · rw [hx]
      have h1 := bulk_length (lits (H := H) .u8 (zs.take len))
      simp only [Rows.uptoBulk]
      have h2 : (lits (H := H) .u8 (zs.take len)).length = len := by simp [lits]; omega
      omega
/-- One file. -/
theorem open_ent {H : Type} {enc : TypeId × Value → H} {P : Program} {W : World} {n : Nat} {tF tS tI tB : TypeId} {cs : List Value} {x : DataW H × List MemPlace} (T : BaseTypes P tS tI tB) {f0 f1 f2 : Field} (hF : P.underlying tF = some (.struct #[f0, f1, f2])) (cF : P.cellsOf tF = 3) (k0 : f0.type = tS ∧ f0.offset = 0) (k1 : f1.type = tI ∧ f1.offset = 1) (k2 : f2.type = tB ∧ f2.offset = 2)
    (h : DataW.trod enc P W 0 (fun _ => true) true n tF cs = some x) :
    ∃ e : Ent, cs = fileKind.vals e ∧ fileKind.held W e ∧ e.cap ≤ maxLen ∧ (-9223372036854775808 ≤ e.safe ∧ e.safe < 9223372036854775808) ∧ e.name.length ≤ maxLen ∧ e.name.length + e.bytes.length + 1 ≤ Rows.uptoBulk x.1 := by
  obtain ⟨e0, o0⟩ := k0
  obtain ⟨e1, o1⟩ := k1
  obtain ⟨e2, o2⟩ := k2
  obtain ⟨t5, hB, h5, c5⟩ := T.row
  obtain ⟨y0, y1, y2, k, hx, hl, t0, t1, t2⟩ := trod_struct3 hF h
  rw [cF] at hl
  match cs, hl with
  | [v0, v1, v2], _ =>
    rw [e0, o0, T.cS] at t0
    rw [e1, o1, T.cI] at t1
    rw [e2, o2, T.cB] at t2
    simp at t0 t1 t2
    obtain ⟨s, hs, hy0, hsz⟩ := DataW.trod_string T.str t0
    obtain ⟨z, hz, hy1, hw⟩ := DataW.trod_int T.int t1
    obtain ⟨ao, m, c, l, hv, hsrc, hc, hbk⟩ := open_bytes_of hB h5 c5 t2
    simp only [List.cons.injEq, and_true] at hs hz
    have hm := hsrc.len
    have hsl : s.data.toList.length = s.size := by rw [Array.length_toList]; rfl
    refine ⟨⟨s.data.toList, z, ao, c, l⟩, ?_, ?_, hc, i64_lt hw, by show s.data.toList.length ≤ maxLen; omega, ?_⟩
    · rw [hs, hz, hv]
      simp only [fileKind]
      rw [hm]
    · show Src W ao l.length c l
      rw [hm]
      exact hsrc
    · rw [hx]
      simp only [Rows.uptoBulk, Rows.uptoBulkAll]
      have h0 : Rows.uptoBulk y0.1 = s.data.toList.length + 1 := by rw [hy0]; simp [Rows.uptoBulk]
      show s.data.toList.length + l.length + 1 ≤ _
      omega

theorem trod_struct6 {H : Type} {enc : TypeId × Value → H} {P : Program} {w : World} {base : Nat} {spare : Nat → Bool} {held : Bool} {t : TypeId} {f0 f1 f2 f3 f4 f5 : Field} {fuel : Nat} {cs : List Value} {x : DataW H × List MemPlace} (ht : P.underlying t = some (.struct #[f0, f1, f2, f3, f4, f5])) (h : DataW.trod enc P w base spare held fuel t cs = some x) :
    ∃ y0 y1 y2 y3 y4 y5 n, x.1 = .agg [y0.1, y1.1, y2.1, y3.1, y4.1, y5.1] ∧ cs.length = P.cellsOf t ∧ DataW.trod enc P w base spare held n f0.type ((cs.drop f0.offset).take (P.cellsOf f0.type)) = some y0 ∧
      DataW.trod enc P w base spare held n f1.type ((cs.drop f1.offset).take (P.cellsOf f1.type)) = some y1 ∧ DataW.trod enc P w base spare held n f2.type ((cs.drop f2.offset).take (P.cellsOf f2.type)) = some y2 ∧
      DataW.trod enc P w base spare held n f3.type ((cs.drop f3.offset).take (P.cellsOf f3.type)) = some y3 ∧ DataW.trod enc P w base spare held n f4.type ((cs.drop f4.offset).take (P.cellsOf f4.type)) = some y4 ∧
      DataW.trod enc P w base spare held n f5.type ((cs.drop f5.offset).take (P.cellsOf f5.type)) = some y5 := by
  obtain ⟨xs, n, _, rfl, hl, hlen, hf⟩ := DataW.trod_struct ht h
  match xs, hlen with
  | [y0, y1, y2, y3, y4, y5], _ => exact ⟨y0, y1, y2, y3, y4, y5, n, by simp, hl, by simpa using hf 0 f0 rfl, by simpa using hf 1 f1 rfl, by simpa using hf 2 f2 rfl, by simpa using hf 3 f3 rfl, by simpa using hf 4 f4 rfl, by simpa using hf 5 f5 rfl⟩
/-- A slice of numbers. -/
theorem open_ints_of {H : Type} {enc : TypeId × Value → H} {P : Program} {W : World} {n : Nat} {tN tI : TypeId} {v : Value} {x : DataW H × List MemPlace} (hN : P.underlying tN = some (.slice tI)) (hI : P.underlying tI = some (.int .i64)) (cI : P.cellsOf tI = 1)
    (h : DataW.trod enc P W 0 (fun _ => true) true n tN [v] = some x) : ∃ ao m c l, v = .slice ao m c ∧ RSrc intKind W ao m c l ∧ c ≤ maxLen ∧ (∀ z ∈ l, -9223372036854775808 ≤ z ∧ z < 9223372036854775808) ∧ m ≤ Rows.uptoBulk x.1 := by
  obtain ⟨ao, m, c, es, hv, hs, hc, hd⟩ := open_recs intKind_ok (Q := fun z d => d = .lit (.int .i64 z) ∧ (Lit.int .i64 z).wf = true) hN cI (fun m cs y hy => by
    obtain ⟨z, h1, h2, h3⟩ := DataW.trod_int hI hy
    exact ⟨z, h1, trivial, by rw [h2], h3⟩) h
  refine ⟨ao, m, c, es, hv, hs, hc, fun z hz => ?_, ?_⟩
  · obtain ⟨i, hi⟩ := List.getElem?_of_mem hz
    rcases hd with ⟨h0, _⟩ | ⟨ds, sp, _, hl, _, hq⟩
    · have := (List.getElem?_eq_some_iff.1 hi).1
      rw [hs.len, h0] at this
      omega
    · have hlt := (List.getElem?_eq_some_iff.1 hi).1
      rw [hs.len, ← hl] at hlt
      exact i64_lt (hq i z _ hi (List.getElem?_eq_getElem hlt)).2
  · rcases hd with ⟨h0, _⟩ | ⟨ds, sp, hx, hl, _, _⟩
    · omega
    · rw [hx]
      have := bulk_length ds
      simp only [Rows.uptoBulk]
      omega
/-- One operation. -/
theorem open_op {H : Type} {enc : TypeId × Value → H} {P : Program} {W : World} {n : Nat} {tO tS tI tB tN : TypeId} {cs : List Value} {x : DataW H × List MemPlace} (T : BaseTypes P tS tI tB) (hN : P.underlying tN = some (.slice tI)) (cN : P.cellsOf tN = 1)
    {f0 f1 f2 f3 f4 f5 : Field} (hO : P.underlying tO = some (.struct #[f0, f1, f2, f3, f4, f5])) (cO : P.cellsOf tO = 6) (k0 : f0.type = tI ∧ f0.offset = 0) (k1 : f1.type = tI ∧ f1.offset = 1) (k2 : f2.type = tS ∧ f2.offset = 2) (k3 : f3.type = tS ∧ f3.offset = 3) (k4 : f4.type = tB ∧ f4.offset = 4) (k5 : f5.type = tN ∧ f5.offset = 5)
    (h : DataW.trod enc P W 0 (fun _ => true) true n tO cs = some x) :
    ∃ e : OpE, cs = opKind.vals e ∧ opKind.held W e ∧ ((-9223372036854775808 ≤ e.what ∧ e.what < 9223372036854775808) ∧ (-9223372036854775808 ≤ e.n ∧ e.n < 9223372036854775808) ∧ (∀ z ∈ e.picks, -9223372036854775808 ≤ z ∧ z < 9223372036854775808) ∧
      e.a.length ≤ maxLen ∧ e.b.length ≤ maxLen ∧ e.dcap ≤ maxLen ∧ e.pcap ≤ maxLen ∧ e.a.length + e.b.length + e.data.length + e.picks.length + 1 ≤ Rows.uptoBulk x.1) := by
  obtain ⟨y0, y1, y2, y3, y4, y5, q, hx, hl, t0, t1, t2, t3, t4, t5⟩ := trod_struct6 hO h
  obtain ⟨e0, o0⟩ := k0
  obtain ⟨e1, o1⟩ := k1
  obtain ⟨e2, o2⟩ := k2
  obtain ⟨e3, o3⟩ := k3
  obtain ⟨e4, o4⟩ := k4
  obtain ⟨e5, o5⟩ := k5
  obtain ⟨u5, hB, h5, c5⟩ := T.row
  rw [cO] at hl
  match cs, hl with
  | [v0, v1, v2, v3, v4, v5], _ =>
    rw [e0, o0, T.cI] at t0
    rw [e1, o1, T.cI] at t1
    rw [e2, o2, T.cS] at t2
    rw [e3, o3, T.cS] at t3
    rw [e4, o4, T.cB] at t4
    rw [e5, o5, cN] at t5
    simp at t0 t1 t2 t3 t4 t5
    obtain ⟨z0, hz0, _, w0⟩ := DataW.trod_int T.int t0
    obtain ⟨z1, hz1, _, w1⟩ := DataW.trod_int T.int t1
    obtain ⟨s2, hs2, hy2, hq2⟩ := DataW.trod_string T.str t2
    obtain ⟨s3, hs3, hy3, hq3⟩ := DataW.trod_string T.str t3
    obtain ⟨a4, m4, c4, l4, hv4, g4, hc4, hb4⟩ := open_bytes_of hB h5 c5 t4
    obtain ⟨a5, m5, c5', l5, hv5, g5, hc5, hw5, hb5⟩ := open_ints_of hN T.int T.cI t5
    simp only [List.cons.injEq, and_true] at hz0 hz1 hs2 hs3
    have hm4 := g4.len
    have hm5 := g5.len
    have l2 : s2.data.toList.length = s2.size := by rw [Array.length_toList]; rfl
    have l3 : s3.data.toList.length = s3.size := by rw [Array.length_toList]; rfl
    refine ⟨⟨z0, z1, s2.data.toList, s3.data.toList, a4, c4, l4, a5, c5', l5⟩, ?_, ⟨?_, ?_⟩, i64_lt w0, i64_lt w1, hw5, by show s2.data.toList.length ≤ maxLen; omega, by show s3.data.toList.length ≤ maxLen; omega, hc4, hc5, ?_⟩
    · rw [hz0, hz1, hs2, hs3, hv4, hv5]
      simp only [opKind]
      rw [hm4, hm5]
    · show Src W a4 l4.length c4 l4
      rw [hm4]
      exact g4
    · show RSrc intKind W a5 l5.length c5' l5
      rw [hm5]
      exact g5
    · rw [hx]
      have h2 : Rows.uptoBulk y2.1 = s2.data.toList.length + 1 := by rw [hy2]; simp [Rows.uptoBulk]
      have h3 : Rows.uptoBulk y3.1 = s3.data.toList.length + 1 := by rw [hy3]; simp [Rows.uptoBulk]
      simp only [Rows.uptoBulk, Rows.uptoBulkAll]
      show s2.data.toList.length + s3.data.toList.length + l4.length + l5.length + 1 ≤ _
      omega
end Go.Proofs.Ytfjhfecjbheipaa
