/- A slice of bytes among the arguments, opened: what it holds, its length within the form's reach or the bound; no walk. -/
/- Files and operations as records: how they lie, and how they are opened among the arguments, of any program; no walk. -/
/- The walk of disk's lose. -/
/- Files' rows and the plain files that they stand for; a crash, file by file; no walk. -/
/- Files loaded, over plain lists: what may be loaded, and the disk that it makes; no walk. -/
/- A slice of files among the arguments opened, and how much it holds; no walk. -/
/- A slice of numbers among the arguments, opened; no walk. -/
import Derived.Test.YthnebhddakfadaaGreatDoorJoinMe
import Derived.OpenShut
import Derived.ShutString
import Derived.SizedLaws
import Derived.Carry
import Derived.JoinedCond
import Derived.Deep.Strs
import Derived.Test.YthnebhddakfadaaGreatDoorJoinNn
import Derived.Test.YthnebhddakfadaaGreatDoorJoinOz
namespace Go.Proofs.YthnebhddakfadaaGreatDoor
open Go.ChangeShapes Go.WideShapes Go.ChangeAt Go.RowKit

theorem laidOut : laidOutB Tryz.prog = true := by kernel_rfl
theorem cells5 : Tryz.prog.cellsOf 5 = 1 := by kernel_rfl
theorem bytes5 : Tryz.prog.bytesOf 5 = 1 := by kernel_rfl
def bl (zs : List Int) : List UInt8 := zs.map fun n => UInt8.ofNat n.toNat
theorem bl_at (zs : List Int) (i : Nat) (hi : i < zs.length) (hw : ∀ n ∈ zs, (Lit.int .u8 n).wf = true) : ((fn (bl zs) i).toNat : Int) = zs.getD i 0 := by
  have hz : zs.getD i 0 = zs[i] := by simp [List.getD, hi]
  have hb := hw zs[i] (List.getElem_mem hi)
  have hx : 0 ≤ zs[i] ∧ zs[i] ≤ 255 := by simpa [Lit.wf, IntKind.min, IntKind.max, IntKind.signed, IntKind.bits] using hb
  have e : fn (bl zs) i = UInt8.ofNat (zs[i]).toNat := by simp [fn, bl, List.getD, hi]
  rw [e, hz, UInt8.toNat_ofNat']
  omega
theorem i64_lt {n : Int} (h : (Lit.int .i64 n).wf = true) : -9223372036854775808 ≤ n ∧ n < 9223372036854775808 := by
  have h2 : -9223372036854775808 ≤ n ∧ n ≤ 9223372036854775807 := by simpa [Lit.wf, IntKind.min, IntKind.max, IntKind.signed, IntKind.bits] using h
  omega
theorem bulk_one {H : Type} (d : DataW H) : 1 ≤ Rows.uptoBulk d := by
  cases d with
  | lit l => cases l <;> simp [Rows.uptoBulk]
  | nil => simp [Rows.uptoBulk]
  | ptr d => simp [Rows.uptoBulk]
  | slice elems spare => simp [Rows.uptoBulk]
  | agg parts => simp [Rows.uptoBulk]
  | iface t d => simp [Rows.uptoBulk]
  | map entries => simp [Rows.uptoBulk]
  | held h => simp [Rows.uptoBulk]
theorem bulk_length {H : Type} (l : List (DataW H)) : l.length ≤ Rows.uptoBulkAll l := by
  induction l with
  | nil => simp [Rows.uptoBulkAll]
  | cons x r ih => have := bulk_one x; simp only [Rows.uptoBulkAll, List.length_cons]; omega
end Go.Proofs.YthnebhddakfadaaGreatDoor
namespace Go.Proofs.YthnebhddakfadaaGreatDoor
open Go.ChangeShapes Go.WideShapes Go.ChangeAt Go.RowKit Go.Deep

/-- A file as it lies in memory: where its bytes are, besides. -/
structure Ent where
  name : List UInt8
  safe : Int
  ptr : Option Addr
  cap : Nat
  bytes : List UInt8
def fileKind : Kind Ent where
  size := 3
  vals e := [.string ⟨e.name.toArray⟩, .int .i64 e.safe, .slice e.ptr e.bytes.length e.cap]
  held w e := Src w e.ptr e.bytes.length e.cap e.bytes
theorem fileKind_ok : fileKind.Ok :=
  ⟨by decide, fun _ => rfl, fun e u hu => by
    simp only [fileKind, List.mem_cons, List.not_mem_nil, or_false] at hu
    rcases hu with rfl | rfl | rfl <;> rfl, fun h hb => Src.below h hb⟩
/-- The types that records are made of. -/
structure BaseTypes (P : Program) (tS tI tB : TypeId) : Prop where
  str : P.underlying tS = some .string
  int : P.underlying tI = some (.int .i64)
  row : ∃ t5, P.underlying tB = some (.slice t5) ∧ P.underlying t5 = some (.int .u8) ∧ P.cellsOf t5 = 1
  cS : P.cellsOf tS = 1
  cI : P.cellsOf tI = 1
  cB : P.cellsOf tB = 1
theorem open_bytes_of {H : Type} {enc : TypeId × Value → H} {P : Program} {W : World} {n : Nat} {tB t5 : TypeId} {v : Value} {x : DataW H × List MemPlace} (hB : P.underlying tB = some (.slice t5)) (h5 : P.underlying t5 = some (.int .u8)) (c5 : P.cellsOf t5 = 1)
    (h : DataW.trod enc P W 0 (fun _ => true) true n tB [v] = some x) : ∃ ao m c l, v = .slice ao m c ∧ Src W ao m c l ∧ c ≤ maxLen ∧ m ≤ Rows.uptoBulk x.1 := by
  rcases open_ints hB h5 c5 h with ⟨hcs, hx⟩ | ⟨a, len, cap, zs, hcs, _, hl, hm, hz, hx, hcell, hwz⟩
  · simp only [List.cons.injEq, and_true] at hcs
    exact ⟨none, 0, 0, [], hcs, Src.empty (fun _ => rfl), Nat.zero_le _, Nat.zero_le _⟩
  · simp only [List.cons.injEq, and_true] at hcs
    simp at hz
    refine ⟨some a, len, cap, bl (zs.take len), hcs, ?_, hm, ?_⟩
    · refine ⟨by simp [bl]; omega, hl, (fun h => by cases h), fun ad had j u hu => ?_⟩
      cases had
      have hj : j < (bl (zs.take len)).length := by
        have := (List.getElem?_eq_some_iff.1 hu).1
        rwa [bv_length] at this
      have hj2 : j < (zs.take len).length := by simpa [bl] using hj
      rw [bv_at _ j hj] at hu
      cases hu
      rw [bl_at (zs.take len) j hj2 (fun n hn => hwz n (List.mem_of_mem_take hn)), hcell j (by simp at hj2; omega)]
      congr 2
      have h1 : j < len := by simp at hj2; omega
      rw [List.getD_eq_getElem?_getD, List.getD_eq_getElem?_getD, List.getElem?_take, if_pos h1]
    · rw [hx]
      have h1 := bulk_length (lits (H := H) .u8 (zs.take len))
      simp only [Rows.uptoBulk]
      have h2 : (lits (H := H) .u8 (zs.take len)).length = len := by simp [lits]; omega
      omega
/-- One file. -/
theorem open_ent {H : Type} {enc : TypeId × Value → H} {P : Program} {W : World} {n : Nat} {tF tS tI tB : TypeId} {cs : List Value} {x : DataW H × List MemPlace} (T : BaseTypes P tS tI tB) {f0 f1 f2 : Field} (hF : P.underlying tF = some (.struct #[f0, f1, f2])) (cF : P.cellsOf tF = 3) (k0 : f0.type = tS ∧ f0.offset = 0) (k1 : f1.type = tI ∧ f1.offset = 1) (k2 : f2.type = tB ∧ f2.offset = 2)
    (h : DataW.trod enc P W 0 (fun _ => true) true n tF cs = some x) :
    ∃ e : Ent, cs = fileKind.vals e ∧ fileKind.held W e ∧ e.cap ≤ maxLen ∧ (-9223372036854775808 ≤ e.safe ∧ e.safe < 9223372036854775808) ∧ e.name.length ≤ maxLen ∧ e.name.length + e.bytes.length + 1 ≤ Rows.uptoBulk x.1 := by
  obtain ⟨e0, o0⟩ := k0
  obtain ⟨e1, o1⟩ := k1
  obtain ⟨e2, o2⟩ := k2
  obtain ⟨t5, hB, h5, c5⟩ := T.row
  obtain ⟨y0, y1, y2, k, hx, hl, t0, t1, t2⟩ := trod_struct3 hF h
  rw [cF] at hl
  match cs, hl with
  | [v0, v1, v2], _ =>
    rw [e0, o0, T.cS] at t0
    rw [e1, o1, T.cI] at t1
    rw [e2, o2, T.cB] at t2
    simp at t0 t1 t2
    obtain ⟨s, hs, hy0, hsz⟩ := DataW.trod_string T.str t0
    obtain ⟨z, hz, hy1, hw⟩ := DataW.trod_int T.int t1
    obtain ⟨ao, m, c, l, hv, hsrc, hc, hbk⟩ := open_bytes_of hB h5 c5 t2
    simp only [List.cons.injEq, and_true] at hs hz
    have hm := hsrc.len
    have hsl : s.data.toList.length = s.size := by rw [Array.length_toList]; rfl
    refine ⟨⟨s.data.toList, z, ao, c, l⟩, ?_, ?_, hc, i64_lt hw, by show s.data.toList.length ≤ maxLen; omega, ?_⟩
    · rw [hs, hz, hv]
      simp only [fileKind]
      rw [hm]
    · show Src W ao l.length c l
      rw [hm]
      exact hsrc
    · rw [hx]
      simp only [Rows.uptoBulk, Rows.uptoBulkAll]
      have h0 : Rows.uptoBulk y0.1 = s.data.toList.length + 1 := by rw [hy0]; simp [Rows.uptoBulk]
      show s.data.toList.length + l.length + 1 ≤ _
      omega

end Go.Proofs.YthnebhddakfadaaGreatDoor
namespace Go.Proofs.YthnebhddakfadaaGreatDoor
open Go.RowKit
open Dk (File Disk)

theorem map_look1 {w : World} {m : Nat} {l : List Named} (h : MapIs Tryz.prog 9 w m l) (n : List UInt8) (hn : n.length ≤ maxLen) :
    (Instr.lookup 85 (.map (some m)) (.string ⟨n.toArray⟩) false).run Tryz.prog w = .ok ((seek l n).getD nofile) w :=
  h.look Tryz.underlying9 Tryz.underlying85 (zero_file w) n hn
theorem look1_there {w : World} {m : Nat} {l : List Named} {fs : List File} (h : MapIs Tryz.prog 9 w m l) (hr : Rel w Nobody l fs) {n : List UInt8} (hn : n.length ≤ maxLen) {f : File} (hx : Dk.look fs n = some f) :
    ∃ ao c, (Instr.lookup 85 (.map (some m)) (.string ⟨n.toArray⟩) false).run Tryz.prog w = .ok (.agg #[.int .i64 (f.safe : Int), .slice ao f.bytes.length c]) w ∧
      w.ownsRow 0 5 1 (.slice ao f.bytes.length c) f.bytes.length (bv f.bytes) ∧ Src w ao f.bytes.length c f.bytes ∧ (n, filev f.safe (.slice ao f.bytes.length c)) ∈ l := by
  have h0 := map_look1 h n hn
  obtain ⟨v, h1, h2, h3⟩ := hr.some hx
  obtain ⟨sv, rfl, ho⟩ := h3 (fun e => e)
  obtain ⟨ao, c, rfl, hs, _⟩ := Src.of_own ho
  rw [h1] at h0
  exact ⟨ao, c, h0, ho, hs, h2⟩

end Go.Proofs.YthnebhddakfadaaGreatDoor
namespace Go.Proofs.YthnebhddakfadaaGreatDoor
open Go.RowKit
open Dk (File Disk)

abbrev Plain := List UInt8 × Int × List UInt8
def plainE (e : Ent) : Plain := (e.name, e.safe, e.bytes)
def plainF (f : File) : Plain := (f.name, (f.safe : Int), f.bytes)
/-- What is not older than B. -/
def Old (B : Nat) (g : Nat) : Prop := g < B
theorem RSrc.next {α : Type} {k : Kind α} {U : Nat → Prop} {w w' : World} {ao : Option Addr} {n c : Nat} {es : List α} (h : Steady U w fun w => RSrc k w ao n c es) (hk : Kept U w w') : RSrc k w' ao n c es := h w' hk
/-- A row of files that a call made, its bytes new too. -/
theorem files_steady {B : Nat} {w : World} {v : Value} {n t : Nat} {es : List Ent} (h : w.ownsRow B t 3 v n (rv fileKind es)) (hh : ∀ e ∈ es, Steady (Old B) w fun w => fileKind.held w e) : ∃ ao c, v = .slice ao n c ∧ c ≤ maxLen ∧ Steady (Old B) w fun w => RSrc fileKind w ao n c es := by
  obtain ⟨ao, c, rfl, _, hc⟩ := RSrc.own fileKind_ok h (fun e he => (hh e he).here)
  refine ⟨ao, c, rfl, hc, fun w' hk => ?_⟩
  obtain ⟨ao', c', e, hr, _⟩ := RSrc.own fileKind_ok (own_steady h (fun g hg => hg) w' hk) (fun e he => hh e he w' hk)
  cases e
  exact hr
theorem Src.old_steady {B n : Nat} {w : World} {v : Value} {l : List UInt8} (h : w.ownsRow B 5 1 v n (bv l)) : ∃ ao c, v = .slice ao n c ∧ c ≤ maxLen ∧ Steady (Old B) w fun w => Src w ao n c l := by
  obtain ⟨ao, c, rfl, _, hc⟩ := Src.of_own h
  refine ⟨ao, c, rfl, hc, fun w' hk => ?_⟩
  obtain ⟨ao', c', e, hr, _⟩ := Src.of_own (own_steady h (fun g hg => hg) w' hk)
  cases e
  exact hr
end Go.Proofs.YthnebhddakfadaaGreatDoor
namespace Go.Proofs.YthnebhddakfadaaGreatDoor
open Go.RowKit
open Dk (File Disk)

def ldE (e : Ent) : File := ⟨e.name, e.safe.toNat, e.bytes⟩
/-- May this one come behind those? -/
def okE (fs : List File) (e : Ent) : Bool := Dk.named e.name && !(Dk.look fs e.name).isSome && decide (0 ≤ e.safe) && decide (e.safe ≤ (e.bytes.length : Int))
def ldAll : List File → List Ent → Option (List File)
  | fs, [] => some fs
  | fs, e :: t => if okE fs e then ldAll (Dk.put fs (ldE e)) t else none
/-- A bound of what they cost. -/
def bulk : List Ent → Nat
  | [] => 0
  | e :: t => 116 + e.bytes.length + bulk t
/-- What loading answers: an error, or the disk. -/
def ldOf (cap : Int) (es : List Ent) : Nat ⊕ Disk :=
  if cap < 0 ∨ 1099511627776 < cap then .inl 1 else
  match ldAll [] es with
  | none => .inl 1
  | some fs => if cap < (Dk.used fs : Int) then .inl 4 else .inr ⟨cap.toNat, fs, 0, none, false⟩
theorem okE_true {fs : List File} {e : Ent} (h : okE fs e = true) : Dk.named e.name = true ∧ Dk.look fs e.name = none ∧ 0 ≤ e.safe ∧ e.safe ≤ (e.bytes.length : Int) := by
  unfold okE at h
  simp only [Bool.and_eq_true, decide_eq_true_eq, Bool.not_eq_true'] at h
  refine ⟨h.1.1.1, ?_, h.1.2, h.2⟩
  cases hx : Dk.look fs e.name with
  | none => rfl
  | some f => have := h.1.1.2; rw [hx] at this; cases this
theorem ldAll_app (l r : List Ent) : ∀ fs, ldAll fs (l ++ r) = (ldAll fs l).bind fun x => ldAll x r := by
  induction l with
  | nil => intro fs; rfl
  | cons e t ih =>
    intro fs
    simp only [List.cons_append, ldAll]
    split
    · exact ih _
    · rfl
theorem ldAll_next {es : List Ent} {t : Nat} {e : Ent} {x : List File} (he : es[t]? = some e) (hx : ldAll [] (es.take t) = some x) (ho : okE x e = true) : ldAll [] (es.take (t + 1)) = some (Dk.put x (ldE e)) := by
  rw [List.take_add_one, he, ldAll_app, hx]
  show (if okE x e = true then _ else _) = _
  rw [if_pos ho]
  rfl
theorem ldAll_bad {es : List Ent} {t : Nat} {e : Ent} {x : List File} (he : es[t]? = some e) (hx : ldAll [] (es.take t) = some x) (ho : okE x e = false) : ldAll [] es = none := by
  have hd : es = es.take t ++ (e :: es.drop (t + 1)) := by
    have ht : t < es.length := (List.getElem?_eq_some_iff.1 he).1
    have h1 := List.take_append_drop t es
    have h2 : es.drop t = e :: es.drop (t + 1) := by
      rw [List.drop_eq_getElem_cons ht]
      congr 1
      exact (List.getElem?_eq_some_iff.1 he).2
    rw [h2] at h1
    exact h1.symm
  rw [hd, ldAll_app, hx]
  show (if okE x e = true then _ else _) = _
  rw [if_neg (by rw [ho]; decide)]
/-- What holds of files that were loaded. -/
structure Ldd (fs : List File) : Prop where
  rising : Dk.Rising fs
  names : ∀ f ∈ fs, Dk.named f.name = true
  safes : ∀ f ∈ fs, f.safe ≤ f.bytes.length
theorem Ldd.nil : Ldd [] := ⟨trivial, (fun f hf => by cases hf), (fun f hf => by cases hf)⟩
theorem Ldd.next {fs : List File} {e : Ent} (h : Ldd fs) (ho : okE fs e = true) : Ldd (Dk.put fs (ldE e)) ∧ (Dk.put fs (ldE e)).length ≤ fs.length + 1 ∧ Dk.used (Dk.put fs (ldE e)) ≤ Dk.used fs + (116 + e.bytes.length) ∧ Dk.used (Dk.put fs (ldE e)) = Dk.used fs + (16 + e.name.length + e.bytes.length) := by
  obtain ⟨h1, h2, h3, h4⟩ := okE_true ho
  have h5 := (named_true h1).2.1
  have h6 := Dk.used_put_new (l := fs) (f := ldE e) h2
  have h7 : Dk.cost (ldE e) = 16 + e.name.length + e.bytes.length := rfl
  refine ⟨⟨Dk.put_rising _ h.rising, fun f hf => ?_, fun f hf => ?_⟩, Dk.put_length _ _, by omega, by omega⟩
  · rcases Dk.put_mem hf with rfl | ⟨hf, _⟩
    · exact h1
    · exact h.names f hf
  · rcases Dk.put_mem hf with rfl | ⟨hf, _⟩
    · show e.safe.toNat ≤ e.bytes.length
      omega
    · exact h.safes f hf
theorem ldAll_ldd : ∀ (es : List Ent) (fs x : List File), Ldd fs → ldAll fs es = some x → Ldd x ∧ x.length ≤ fs.length + es.length ∧ Dk.used x ≤ Dk.used fs + bulk es
  | [], fs, x, h, hx => by
    cases hx
    exact ⟨h, Nat.le_refl _, Nat.le_refl _⟩
  | e :: t, fs, x, h, hx => by
    simp only [ldAll] at hx
    split at hx
    · rename_i ho
      obtain ⟨h1, h2, h3, _⟩ := h.next ho
      obtain ⟨k1, k2, k3⟩ := ldAll_ldd t _ _ h1 hx
      refine ⟨k1, ?_, ?_⟩
      · simp only [List.length_cons]; omega
      · simp only [bulk]; omega
    · cases hx
theorem bulk_app (a b : List Ent) : bulk (a ++ b) = bulk a + bulk b := by
  induction a with
  | nil => simp [bulk]
  | cons e t ih => simp only [List.cons_append, bulk, ih]; omega
theorem bulk_take (es : List Ent) (t : Nat) : bulk (es.take t) ≤ bulk es := by
  have h := bulk_app (es.take t) (es.drop t)
  rw [List.take_append_drop] at h
  omega
theorem bulk_mem {es : List Ent} {e : Ent} (h : e ∈ es) : e.bytes.length ≤ bulk es := by
  induction es with
  | nil => cases h
  | cons k t ih =>
    rcases List.mem_cons.1 h with rfl | h
    · simp only [bulk]; omega
    · have := ih h
      simp only [bulk]; omega
theorem Ldd.good {fs : List File} (h : Ldd fs) {cap : Nat} (hc : Dk.used fs ≤ cap) : Dk.Good ⟨cap, fs, 0, none, false⟩ := ⟨h.rising, h.names, h.safes, hc, fun _ => rfl⟩
/-- The disk that was loaded. -/
theorem ldOf_good {cap : Int} {es : List Ent} {d : Disk} (h : ldOf cap es = .inr d) : 0 ≤ cap ∧ cap ≤ 1099511627776 ∧ ∃ fs, ldAll [] es = some fs ∧ d = ⟨cap.toNat, fs, 0, none, false⟩ ∧ (Dk.used fs : Int) ≤ cap ∧ Dk.Good d := by
  unfold ldOf at h
  split at h
  · cases h
  rename_i hc
  split at h
  · cases h
  rename_i fs hfs
  split at h
  · cases h
  rename_i hu
  cases h
  obtain ⟨k1, _, _⟩ := ldAll_ldd es [] fs Ldd.nil hfs
  exact ⟨by omega, by omega, fs, hfs, rfl, by omega, k1.good (by omega)⟩
end Go.Proofs.YthnebhddakfadaaGreatDoor
namespace Go.Proofs.YthnebhddakfadaaGreatDoor
open Go.ChangeShapes Go.WideShapes Go.ChangeAt Go.RowKit Go.Deep

theorem baseF : BaseTypes Tryz.prog 9 3 25 := ⟨Tryz.underlying9, Tryz.underlying3, ⟨5, Tryz.underlying25, Tryz.underlying5, cells5⟩, by kernel_rfl, by kernel_rfl, by kernel_rfl⟩
theorem bulk_all {H : Type} : ∀ (es : List Ent) (ds : List (DataW H)), es.length = ds.length → (∀ (i : Nat) (e : Ent) (d : DataW H), es[i]? = some e → ds[i]? = some d → e.name.length + e.bytes.length + 1 ≤ Rows.uptoBulk d) → bulk es ≤ 116 * Rows.uptoBulkAll ds
  | [], _, _, _ => Nat.zero_le _
  | e :: t, [], hl, _ => by simp at hl
  | e :: t, d :: r, hl, h => by
    have h1 := h 0 e d rfl rfl
    have h2 := bulk_all t r (by simpa using hl) (fun i e' d' he hd => h (i + 1) e' d' he hd)
    simp only [bulk, Rows.uptoBulkAll]
    omega
set_option maxRecDepth 100000 in
/-- A slice of the document's files. -/
theorem open_files {H : Type} {enc : TypeId × Value → H} {W : World} {v : Value} {d : DataW H} {p : List MemPlace} {base : Nat} (hv : Value.okWide Tryz.prog W .any base 22 v) (h : DataW.Trod enc Tryz.prog W 0 (fun _ => true) true 22 v d p) :
    ∃ ao m c es, v = .slice ao m c ∧ RSrc fileKind W ao m c es ∧ (∀ e ∈ es, e.name.length ≤ maxLen) ∧ m ≤ Rows.uptoBulk d ∧ bulk es ≤ 116 * Rows.uptoBulk d := by
  obtain ⟨a0, len0, cap0, rfl⟩ := okWide_slice Tryz.underlying22 hv
  obtain ⟨fuel, hf⟩ := h
  obtain ⟨ao, m, c, es, h1, h2, h3, h4⟩ := open_recs fileKind_ok (Q := fun e y => e.name.length ≤ maxLen ∧ e.name.length + e.bytes.length + 1 ≤ Rows.uptoBulk y) Tryz.underlying22 (by kernel_rfl) (fun m cs y hy => by
    obtain ⟨e, q1, q2, _, _, q5, q6⟩ := open_ent baseF Tryz.underlying27 (by kernel_rfl) ⟨rfl, rfl⟩ ⟨rfl, rfl⟩ ⟨rfl, rfl⟩ hy
    exact ⟨e, q1, q2, q5, q6⟩) (v := .slice a0 len0 cap0) (by simpa only [Value.cells] using hf)
  have hl := h2.len
  rcases h4 with ⟨h0, _⟩ | ⟨ds, sp, hx, hd, _, hq⟩
  · rw [h0] at hl
    have he : es = [] := List.length_eq_zero_iff.1 hl
    subst he
    exact ⟨ao, m, c, [], h1, h2, (fun e he => by cases he), by omega, Nat.zero_le _⟩
  · refine ⟨ao, m, c, es, h1, h2, fun e he => ?_, ?_, ?_⟩
    · obtain ⟨i, hi⟩ := List.getElem?_of_mem he
      have hlt := (List.getElem?_eq_some_iff.1 hi).1
      rw [hl, ← hd] at hlt
      exact (hq i e _ hi (List.getElem?_eq_getElem hlt)).1
    · have h5 : d = .slice ds sp := hx
      have h6 := bulk_length ds
      rw [h5]
      simp only [Rows.uptoBulk]
      omega
    · have h5 : d = .slice ds sp := hx
      have h6 := bulk_all es ds (by rw [hl, hd]) (fun i e y he hy => (hq i e y he hy).2)
      rw [h5]
      simp only [Rows.uptoBulk]
      omega
end Go.Proofs.YthnebhddakfadaaGreatDoor
namespace Go.Proofs.YthnebhddakfadaaGreatDoor
open Go.ChangeShapes Go.WideShapes Go.ChangeAt Go.RowKit Go.Deep

end Go.Proofs.YthnebhddakfadaaGreatDoor
