/- The walk of DiskApart. -/
import Derived.Test.YtipkacaekbckhaaPy
namespace Go.Proofs.Ytipkacaekbckhaa
open Go.RowKit
open Dk (File Disk)

theorem RSrc.one {α : Type} {k : Kind α} (K : k.Ok) {w : World} {b off n c : Nat} {es : List α} (h : RSrc k w (some ⟨b, off, none⟩) n c es) {i : Nat} {e : α} (he : es[i]? = some e) : RSrc k w (some ⟨b, off + i * k.size, none⟩) 1 (c - i) [e] := by
  have hlt := (List.getElem?_eq_some_iff.1 he).1
  have h1 := h.len
  have h2 := h.cap
  refine ⟨rfl, by omega, (fun e => by cases e), fun ad had j u hu => ?_, fun e' he' => ?_⟩
  · cases had
    obtain ⟨i', q, a, e1, e2, e3, e4⟩ := rv_get K hu
    have hi : i' = 0 := by
      have := (List.getElem?_eq_some_iff.1 e3).1
      simpa using this
    subst hi
    have ea : a = e := by simpa using e3.symm
    subst ea
    have := h.cells _ rfl (i * k.size + q) u ((rv_at K q he e2).trans e4)
    rw [Addr.add_mid] at this ⊢
    rw [e1, Nat.zero_mul, Nat.zero_add, Nat.add_assoc]
    exact this
  · have : e' = e := by simpa using he'
    rw [this]
    exact h.held e (List.mem_of_getElem? he)
theorem Rows4.one {U : Nat → Prop} {w : World} {b off n c : Nat} {es : List Ent} {fs : List File} (h : Rows4 U w (some ⟨b, off, none⟩) n c es fs) {i : Nat} {f : File} (hf : fs[i]? = some f) : ∃ e, Rows4 U w (some ⟨b, off + i * 3, none⟩) 1 (c - i) [e] [f] := by
  have h1 := congrArg (fun l => l[i]?) h.same
  simp only [List.getElem?_map, hf, Option.map_some] at h1
  obtain ⟨e, he, hp⟩ : ∃ e, es[i]? = some e ∧ plainE e = plainF f := by
    cases hx : es[i]? with
    | none => rw [hx] at h1; simp at h1
    | some e => rw [hx] at h1; exact ⟨e, rfl, by simpa using h1⟩
  exact ⟨e, fun w' hk => (h.rows w' hk).one fileKind_ok he, by simp [hp], rfl⟩

set_option maxHeartbeats 4000000 in
set_option maxRecDepth 100000 in
theorem diskApart_0 (ao : Option Addr) (m c : Nat) (es : List OpE) (o : OpE) (w : World) (hs : RSrc opKind w ao m c es) (hc : c ≤ maxLen) (hf : ∀ e ∈ es, Fine e) (hh : opKind.held w o) (hfo : Fine o) (hk : bits BinOp.and IntKind.i64 o.what 3 = 0) :
    Calls Try.prog 8 #[.slice ao m c, .agg (opKind.vals o).toArray] w fun e w' => e = .returned (.bool true) ∧ Below w.heap.size w w' := by
  obtain ⟨wh, z, a, b2, da0, dc0, da, pp, pc, ps⟩ := o
  simp only [opKind]
  obtain ⟨W0, hW⟩ : ∃ W0, w.alloc (.cells #[.int .i64 wh, .int .i64 z, .string ⟨a.toArray⟩, .string ⟨b2.toArray⟩, .slice da0 da.length dc0, .slice pp ps.length pc] 38) = W0 := ⟨_, rfl⟩
  have V0 : Hid (Below w.heap.size w W0) := by rw [← hW]; exact (Below.refl _ _).alloc (Nat.le_refl _) _
  have g0 : Hid (W0.heap[w.heap.size]? = some (.cells #[.int .i64 wh, .int .i64 z, .string ⟨a.toArray⟩, .string ⟨b2.toArray⟩, .slice da0 da.length dc0, .slice pp ps.length pc] 38)) := by rw [← hW]; exact heap_alloc_new w _
  have HF := keep hfo
  have OC : Hid (∀ w', Below W0.heap.size W0 w' → w'.cell? ⟨w.heap.size, 0, none⟩ = some (.int .i64 wh) ∧ w'.cell? ⟨w.heap.size, 2, none⟩ = some (.string ⟨a.toArray⟩) ∧ w'.cell? ⟨w.heap.size, 3, none⟩ = some (.string ⟨b2.toArray⟩) ∧ w'.cell? ⟨w.heap.size, 4, none⟩ = some (.slice da0 da.length dc0)) := fun w' hb =>
    ⟨below_cell hb (cell_of_row _ _ _ _ _ _ g0.out : W0.cell? ⟨w.heap.size, 0, none⟩ = _), below_cell hb (cell_of_row _ _ _ _ _ _ g0.out : W0.cell? ⟨w.heap.size, 2, none⟩ = _), below_cell hb (cell_of_row _ _ _ _ _ _ g0.out : W0.cell? ⟨w.heap.size, 3, none⟩ = _), below_cell hb (cell_of_row _ _ _ _ _ _ g0.out : W0.cell? ⟨w.heap.size, 4, none⟩ = _)⟩
  have SD : Hid (∀ w', Below W0.heap.size W0 w' → Src w' da0 da.length dc0 da) := fun w' hb => ((hh.1 : Src w da0 da.length dc0 da).below V0.out).below hb
  have ha := keep (awake_any W0)
  have HP : Hid (∀ w1, Below W0.heap.size W0 w1 → Calls Try.prog 31 #[.slice ao m c] w1 fun e w' => ∃ S b d, e = .returned (.pointer (some ⟨b, 0, none⟩)) ∧ Own w1 S w' b d ∧ d.cap = 1048575 ∧ d.done ≤ 100) := fun w1 hb => played_any ao m c es w1 (hs.below opKind_ok (V0.out.trans (hb.mono V0.out.size))) hc hf
  have hK : bits BinOp.and IntKind.i64 wh 3 = 0 := hk
  clear hk
  clear hs hf hc hh hfo
  go_enter Try.func8, Try.ntmps8
  go_wp2_with fail
  clear hW
  refine ha.out.mono ?_
  rintro e w1 ⟨rfl, hb1⟩
  have B1 := keep hb1
  clear hb1 ha
  go_wp2_with fail
  refine (HP.out w1 B1.out).mono ?_
  rintro e w2 ⟨S, b, d, rfl, hO, hcap, hdn⟩
  have O2 : Hid (Own W0 S w2 b d) := ⟨hO.mem, fun g hg => Nat.le_trans B1.out.size (hO.news g hg), Nat.le_trans B1.out.size hO.at_, B1.out.trans (hO.bel.mono B1.out.size)⟩
  have HG : Hid (Dk.Good d) := by obtain ⟨_, _, _, h⟩ := hO.mem; exact h.good
  have HDN : Hid (d.done ≤ 4611686018427387904) := Nat.le_trans hdn (by omega)
  have hm2 : Hid (∀ g, Go.Proofs.Ytipkacaekbckhaa.mine S b g → g < w2.heap.size) := fun g hg => (O2.out.mines g hg).2
  obtain ⟨N, hN⟩ : ∃ N, d.files.length = N := ⟨_, rfl⟩
  have HN := keep hN
  have hNs : N ≤ 1048575 := by
    have h1 := used_ge d.files
    have h2 := HG.out.room
    omega
  clear hO hcap hdn HP B1 hN
  go_wp2_with fail
  refine (dump_mem S b d w2 O2.out.mem).mono ?_
  rintro e w3 ⟨a3, n3, f3, rfl, _, hst, hpl, hb⟩
  rw [HN.out] at hst ⊢
  have R3 : Hid (Rows4 (Old w2.heap.size) w3 a3 N n3 f3 d.files) := ⟨hst, hpl, HN.out.symm⟩
  have O3 := keep (O2.out.next hb)
  have s3 := keep hb.size
  clear hst hpl hb O2
  go_wp2_with fail
  refine (theirs_any _ a3 N n3 f3 _ _ R3.out (by omega) (fun g hg => Nat.lt_of_lt_of_le hg s3.out)).mono ?_
  rintro e w4 ⟨a4, n4, f4, rfl, hr, hb⟩
  have R4 := keep hr
  have O4 := keep (O3.out.next hb)
  clear hr hb R3 O3 s3
  obtain ⟨c0, c2, c3, c4⟩ := OC.out w4 O4.out.bel
  go_wp2_with fail
  have C5 := append_raw S b d a da da0 dc0 _ O4.out.mem HF.out.a (fun w' hk => SD.out w' (O4.out.bel.trans (hk.below O4.out.bel.size (fun g hg => (O4.out.mines g hg).1)))) HDN.out []
  refine C5.mono ?_
  intro e w5 hr
  obtain ⟨rfl, hq5⟩ := O4.out.raw hr
  have O5 := keep hq5
  have R5 : Hid (Rows4 (Old w2.heap.size) w5 a4 N n4 f4 d.files) := R4.out.next (hr.2.2.wide (fun g _ hg => hm2.out g hg))
  have KE : Hid (∀ f ∈ d.files, f.name ≠ a → f.name ≠ b2 → f ∈ (Dk.raw d 0 a [] da).2.files) := fun f hf' hna hnb => by
    have hnm := HG.out.names f hf'
    exact (Dk.raw_keeps _ _ _ _ HG.out).1 f hf' hna (by intro e; rw [e] at hnm; simp [Dk.named] at hnm)
  have KL : Hid ((Dk.raw d 0 a [] da).2.files.length ≤ N + 1) := by
    have h1 := (Dk.raw_keeps (d := d) 0 a [] da HG.out).2
    rw [HN.out] at h1
    exact h1
  generalize more S w4 w5 = S5 at O5
  generalize Dk.raw d 0 a [] da = X at *
  obtain ⟨xe, D⟩ := X
  simp only at O5 KE KL ⊢
  have HG5 : Hid (Dk.Good D ∧ D.cap ≤ 1099511627776) := by obtain ⟨_, _, _, h⟩ := O5.out.mem; exact ⟨h.good, h.capb⟩
  obtain ⟨N5, hN5⟩ : ∃ N5, D.files.length = N5 := ⟨_, rfl⟩
  have HN5 := keep hN5
  have hN5s : N5 ≤ 1099511627776 := by
    have h1 := used_ge D.files
    have h2 := HG5.out.1.room
    have h3 := HG5.out.2
    omega
  have hNN : (N5 : Int) ≤ (N : Int) + 1 := by have := KL.out; omega
  clear C5 hr hq5 hN5 R4 O4 c0 c2 c3 c4 KL
  go_wp2_with fail
  refine (dump_mem S5 b D w5 O5.out.mem).mono ?_
  rintro e w6 ⟨a6, n6, f6, rfl, _, hst, hpl, hb⟩
  rw [HN5.out] at hst ⊢
  have R6 : Hid (Rows4 (Old w5.heap.size) w6 a6 N5 n6 f6 D.files) := ⟨hst, hpl, HN5.out.symm⟩
  have O6 := keep (O5.out.next hb)
  have RB6 := keep (R5.out.below hb)
  have s6 := keep hb.size
  clear hst hpl hb O5 R5
  go_wp2_with fail
  refine (theirs_any _ a6 N5 n6 f6 _ _ R6.out (by omega) (fun g hg => Nat.lt_of_lt_of_le hg s6.out)).mono ?_
  rintro e w7 ⟨a7, n7, f7, rfl, hr, hb⟩
  have R7 := keep hr
  have RB := keep (RB6.out.below hb)
  have B7 : Hid (Below W0.heap.size W0 w7) := (O6.out.next hb).bel
  clear hr hb R6 O6 RB6 s6
  go_wp2_with fail
  have k4 : N ≤ n4 := RB.out.here.cap
  have k7 : N5 ≤ n7 := R7.out.here.cap
  go_loopw [9] (fun i wr => ∃ t : Nat, t ≤ N ∧ i = .int .i64 (t : Int) ∧ Hid (Below w7.heap.size w7 wr)) (fun i _ => N - (intOf i).toNat)
  case atStart => exact ⟨0, Nat.zero_le _, rfl, Below.refl _ _⟩
  case round =>
    obtain ⟨t, ht, rfl, hb⟩ := hrel
    have t0 : (0 : Int) ≤ (t : Int) := by omega
    rcases Nat.lt_or_ge t N with hlt | hge
    · have t1 : (t : Int) < (N : Int) := by omega
      obtain ⟨f, hf⟩ : ∃ f, d.files[t]? = some f := ⟨d.files[t]'(by rw [HN.out]; exact hlt), List.getElem?_eq_getElem _⟩
      have hmem := List.mem_of_getElem? hf
      have HKE := keep (KE.out f hmem)
      have HFT := keep hf
      obtain ⟨ba, oa, rfl, _, hat⟩ := (RB.out.below hb.out).at_ (by omega)
      obtain ⟨p1, k1, _, a0, _, _⟩ := hat t f hf
      obtain ⟨_, o2, o3, _⟩ := OC.out wr (B7.out.trans (hb.out.mono B7.out.size))
      obtain ⟨nm, sf, fb⟩ := f
      simp only at a0
      clear hat hf hmem
      by_cases h1 : nm = a
      · have y1 : (nm == a) = true := by simpa using h1
        clear h1
        go_wp2_with fail
        go_quiet (fail)
        have hb2 : Hid (Below w7.heap.size w7 (wr.drewN nq)) := hb.out.trans (below_drewN _ _ _)
        go_wp2
        go_roundw
        case rel => exact ⟨t + 1, by omega, by first | rfl | go_num, hb2⟩
        case measure => simp [intOf]; omega
      · have y1 : (nm == a) = false := by simpa using h1
        by_cases h2 : nm = b2
        · have y2 : (nm == b2) = true := by simpa using h2
          clear h1 h2
          go_wp2_with fail
          go_quiet (fail)
          have hb2 : Hid (Below w7.heap.size w7 (wr.drewN nq)) := hb.out.trans (below_drewN _ _ _)
          go_wp2
          go_roundw
          case rel => exact ⟨t + 1, by omega, by first | rfl | go_num, hb2⟩
          case measure => simp [intOf]; omega
        · have y2 : (nm == b2) = false := by simpa using h2
          have HIN : Hid ((⟨nm, sf, fb⟩ : File) ∈ D.files) := HKE.out h1 h2
          clear h1 h2
          go_wp2_with fail
          go_quiet (fail)
          have hb2 : Hid (Below w7.heap.size w7 (wr.drewN nq)) := hb.out.trans (below_drewN _ _ _)
          clear hb a0 o2 o3 y1 y2 HKE
          go_wp2_with fail
          go_loopw [10, 11] (fun x k wi => ∃ (u : Nat) (y : Bool), u ≤ N5 ∧ k = .int .i64 (u : Int) ∧ x = .bool y ∧ Hid (y = true ↔ (⟨nm, sf, fb⟩ : File) ∈ D.files.take u) ∧ Hid (Below w7.heap.size w7 wi)) (fun _ k _ => N5 - (intOf k).toNat)
          case atStart => exact ⟨0, false, Nat.zero_le _, rfl, rfl, by show _ ↔ _; simp, hb2⟩
          case round =>
            obtain ⟨u, y, hu, rfl, rfl, hy, hbi⟩ := hrel
            have u0 : (0 : Int) ≤ (u : Int) := by omega
            rcases Nat.lt_or_ge u N5 with hul | hug
            · have u1 : (u : Int) < (N5 : Int) := by omega
              obtain ⟨g, hg⟩ : ∃ g, D.files[u]? = some g := ⟨D.files[u]'(by rw [HN5.out]; exact hul), List.getElem?_eq_getElem _⟩
              cases y with
              | true =>
                have hn : Hid ((⟨nm, sf, fb⟩ : File) ∈ D.files.take (u + 1)) := by
                  show _ ∈ _
                  rw [List.take_add_one, List.mem_append]
                  exact .inl (hy.out.1 rfl)
                go_wp2_with fail
                go_quiet (fail)
                have hbj : Hid (Below w7.heap.size w7 (wr.drewN nq)) := hbi.out.trans (below_drewN _ _ _)
                go_wp2
                go_roundw
                case rel => exact ⟨u + 1, true, by omega, by first | rfl | go_num, rfl, ⟨fun _ => hn.out, fun _ => rfl⟩, hbj⟩
                case measure => simp [intOf]; omega
              | false =>
                obtain ⟨bc, oc, rfl, _, _⟩ := (R7.out.below hbi.out).at_ (by omega)
                obtain ⟨T1, hT1⟩ : ∃ T1, T1 = t + 1 := ⟨_, rfl⟩
                obtain ⟨U1, hU1⟩ : ∃ U1, U1 = u + 1 := ⟨_, rfl⟩
                have wt : IntKind.i64.wrap ((t : Int) + 1) = (T1 : Int) := by rw [wrap_small _ (by omega) (by omega)]; omega
                have wu : IntKind.i64.wrap ((u : Int) + 1) = (U1 : Int) := by rw [wrap_small _ (by omega) (by omega)]; omega
                have z1 : (t : Int) ≤ (T1 : Int) := by omega
                have z2 : (T1 : Int) ≤ (n4 : Int) := by omega
                have z3 : (u : Int) ≤ (U1 : Int) := by omega
                have z4 : (U1 : Int) ≤ (n7 : Int) := by omega
                have z5 : (0 : Int) ≤ (T1 : Int) := by omega
                have z6 : (0 : Int) ≤ (U1 : Int) := by omega
                have z7 : ¬ n4 = t := by omega
                have z8 : ¬ n7 = u := by omega
                have EU := keep hU1
                have ET := keep hT1
                have SF : Hid (∀ w', Below w7.heap.size w7 w' → Calls Try.prog 19 #[.slice (some ⟨ba, oa + t * 3, none⟩) (T1 - t) (n4 - t), .slice (some ⟨bc, oc + u * 3, none⟩) (U1 - u) (n7 - u)] w' fun e w'' => (∃ x : Bool, e = .returned (.bool x) ∧ (x = true ↔ [(⟨nm, sf, fb⟩ : File)] = [g])) ∧ Below w'.heap.size w' w'') := fun w' hb' => by
                  obtain ⟨e1, q1⟩ := (RB.out.below hb').one HFT.out
                  obtain ⟨e2, q2⟩ := (R7.out.below hb').one hg
                  have x1 : T1 - t = 1 := by omega
                  have x2 : U1 - u = 1 := by omega
                  rw [x1, x2]
                  exact same_files _ 1 (n4 - t) [e1] [(⟨nm, sf, fb⟩ : File)] _ _ 1 (n7 - u) [e2] [g] _ _ q1 q2 (by omega)
                have hn : ∀ x : Bool, (x = true ↔ [(⟨nm, sf, fb⟩ : File)] = [g]) → (x = true ↔ (⟨nm, sf, fb⟩ : File) ∈ D.files.take (u + 1)) := by
                  intro x hx
                  rw [hx, List.take_add_one, List.mem_append, hg]
                  have hno : ¬ (⟨nm, sf, fb⟩ : File) ∈ D.files.take u := fun e => by have := hy.out.2 e; cases this
                  simp [hno]
                have HNN := keep hn
                clear hg hn hT1 hU1
                go_wp2_with fail
                go_region_held3 (fun w' => Below w7.heap.size w7 w') (first | exact hbi.out | exact hbi.out.drew | exact bq.out | exact bq.out.drew | assumption)
                  (first
                    | (go_at_call 19; refine (SF.out _ hbi.out.drew).mono ?_; rintro e wq ⟨⟨x, rfl, hx⟩, hbq⟩; have bq : Hid (Below w7.heap.size w7 wq) := hbi.out.drew.trans (hbq.mono hbi.out.drew.size); have hnx := keep (HNN.out x hx); clear hx hbq))
                go_wp2
                go_roundw
                case rel => exact ⟨U1, x, by have := EU.out; omega, by first | rfl | go_num, by first | rfl | simp, (by rw [EU.out]; exact hnx), bq⟩
                case measure => have := EU.out; simp [intOf]; omega
            · have u1 : ¬ (u : Int) < (N5 : Int) := by omega
              obtain rfl : y = true := hy.out.2 (by rw [List.take_of_length_le (by rw [HN5.out]; exact hug)]; exact HIN.out)
              go_wp2
              go_roundw
              case rel => exact ⟨t + 1, by omega, by first | rfl | go_num, hbi⟩
              case measure => simp [intOf]; omega
    · have t1 : ¬ (t : Int) < (N : Int) := by omega
      have t2 : (N5 : Int) ≤ (N : Int) + 1 := hNN
      go_wp2
      go_ret
      exact ⟨by first | rfl | simp [hNN], V0.out.trans ((B7.out.trans (hb.out.mono B7.out.size)).mono V0.out.size)⟩
set_option maxHeartbeats 4000000 in
set_option maxRecDepth 100000 in
theorem diskApart_1 (ao : Option Addr) (m c : Nat) (es : List OpE) (o : OpE) (w : World) (hs : RSrc opKind w ao m c es) (hc : c ≤ maxLen) (hf : ∀ e ∈ es, Fine e) (hh : opKind.held w o) (hfo : Fine o) (hk : bits BinOp.and IntKind.i64 o.what 3 = 1) :
    Calls Try.prog 8 #[.slice ao m c, .agg (opKind.vals o).toArray] w fun e w' => e = .returned (.bool true) ∧ Below w.heap.size w w' := by
  obtain ⟨wh, z, a, b2, da0, dc0, da, pp, pc, ps⟩ := o
  simp only [opKind]
  obtain ⟨W0, hW⟩ : ∃ W0, w.alloc (.cells #[.int .i64 wh, .int .i64 z, .string ⟨a.toArray⟩, .string ⟨b2.toArray⟩, .slice da0 da.length dc0, .slice pp ps.length pc] 38) = W0 := ⟨_, rfl⟩
  have V0 : Hid (Below w.heap.size w W0) := by rw [← hW]; exact (Below.refl _ _).alloc (Nat.le_refl _) _
  have g0 : Hid (W0.heap[w.heap.size]? = some (.cells #[.int .i64 wh, .int .i64 z, .string ⟨a.toArray⟩, .string ⟨b2.toArray⟩, .slice da0 da.length dc0, .slice pp ps.length pc] 38)) := by rw [← hW]; exact heap_alloc_new w _
  have HF := keep hfo
  have OC : Hid (∀ w', Below W0.heap.size W0 w' → w'.cell? ⟨w.heap.size, 0, none⟩ = some (.int .i64 wh) ∧ w'.cell? ⟨w.heap.size, 2, none⟩ = some (.string ⟨a.toArray⟩) ∧ w'.cell? ⟨w.heap.size, 3, none⟩ = some (.string ⟨b2.toArray⟩) ∧ w'.cell? ⟨w.heap.size, 4, none⟩ = some (.slice da0 da.length dc0)) := fun w' hb =>
    ⟨below_cell hb (cell_of_row _ _ _ _ _ _ g0.out : W0.cell? ⟨w.heap.size, 0, none⟩ = _), below_cell hb (cell_of_row _ _ _ _ _ _ g0.out : W0.cell? ⟨w.heap.size, 2, none⟩ = _), below_cell hb (cell_of_row _ _ _ _ _ _ g0.out : W0.cell? ⟨w.heap.size, 3, none⟩ = _), below_cell hb (cell_of_row _ _ _ _ _ _ g0.out : W0.cell? ⟨w.heap.size, 4, none⟩ = _)⟩
  have SD : Hid (∀ w', Below W0.heap.size W0 w' → Src w' da0 da.length dc0 da) := fun w' hb => ((hh.1 : Src w da0 da.length dc0 da).below V0.out).below hb
  have ha := keep (awake_any W0)
  have HP : Hid (∀ w1, Below W0.heap.size W0 w1 → Calls Try.prog 31 #[.slice ao m c] w1 fun e w' => ∃ S b d, e = .returned (.pointer (some ⟨b, 0, none⟩)) ∧ Own w1 S w' b d ∧ d.cap = 1048575 ∧ d.done ≤ 100) := fun w1 hb => played_any ao m c es w1 (hs.below opKind_ok (V0.out.trans (hb.mono V0.out.size))) hc hf
  have hK : bits BinOp.and IntKind.i64 wh 3 = 1 := hk
  clear hk
  clear hs hf hc hh hfo
  go_enter Try.func8, Try.ntmps8
  go_wp2_with fail
  clear hW
  refine ha.out.mono ?_
  rintro e w1 ⟨rfl, hb1⟩
  have B1 := keep hb1
  clear hb1 ha
  go_wp2_with fail
  refine (HP.out w1 B1.out).mono ?_
  rintro e w2 ⟨S, b, d, rfl, hO, hcap, hdn⟩
  have O2 : Hid (Own W0 S w2 b d) := ⟨hO.mem, fun g hg => Nat.le_trans B1.out.size (hO.news g hg), Nat.le_trans B1.out.size hO.at_, B1.out.trans (hO.bel.mono B1.out.size)⟩
  have HG : Hid (Dk.Good d) := by obtain ⟨_, _, _, h⟩ := hO.mem; exact h.good
  have HDN : Hid (d.done ≤ 4611686018427387904) := Nat.le_trans hdn (by omega)
  have hm2 : Hid (∀ g, Go.Proofs.Ytipkacaekbckhaa.mine S b g → g < w2.heap.size) := fun g hg => (O2.out.mines g hg).2
  obtain ⟨N, hN⟩ : ∃ N, d.files.length = N := ⟨_, rfl⟩
  have HN := keep hN
  have hNs : N ≤ 1048575 := by
    have h1 := used_ge d.files
    have h2 := HG.out.room
    omega
  clear hO hcap hdn HP B1 hN
  go_wp2_with fail
  refine (dump_mem S b d w2 O2.out.mem).mono ?_
  rintro e w3 ⟨a3, n3, f3, rfl, _, hst, hpl, hb⟩
  rw [HN.out] at hst ⊢
  have R3 : Hid (Rows4 (Old w2.heap.size) w3 a3 N n3 f3 d.files) := ⟨hst, hpl, HN.out.symm⟩
  have O3 := keep (O2.out.next hb)
  have s3 := keep hb.size
  clear hst hpl hb O2
  go_wp2_with fail
  refine (theirs_any _ a3 N n3 f3 _ _ R3.out (by omega) (fun g hg => Nat.lt_of_lt_of_le hg s3.out)).mono ?_
  rintro e w4 ⟨a4, n4, f4, rfl, hr, hb⟩
  have R4 := keep hr
  have O4 := keep (O3.out.next hb)
  clear hr hb R3 O3 s3
  obtain ⟨c0, c2, c3, c4⟩ := OC.out w4 O4.out.bel
  go_wp2_with fail
  have C5 := sync_raw S b d a _ O4.out.mem HF.out.a HDN.out [] []
  refine C5.mono ?_
  intro e w5 hr
  obtain ⟨rfl, hq5⟩ := O4.out.raw hr
  have O5 := keep hq5
  have R5 : Hid (Rows4 (Old w2.heap.size) w5 a4 N n4 f4 d.files) := R4.out.next (hr.2.2.wide (fun g _ hg => hm2.out g hg))
  have KE : Hid (∀ f ∈ d.files, f.name ≠ a → f.name ≠ b2 → f ∈ (Dk.raw d 1 a [] []).2.files) := fun f hf' hna hnb => by
    have hnm := HG.out.names f hf'
    exact (Dk.raw_keeps _ _ _ _ HG.out).1 f hf' hna (by intro e; rw [e] at hnm; simp [Dk.named] at hnm)
  have KL : Hid ((Dk.raw d 1 a [] []).2.files.length ≤ N + 1) := by
    have h1 := (Dk.raw_keeps (d := d) 1 a [] [] HG.out).2
    rw [HN.out] at h1
    exact h1
  generalize more S w4 w5 = S5 at O5
  generalize Dk.raw d 1 a [] [] = X at *
  obtain ⟨xe, D⟩ := X
  simp only at O5 KE KL ⊢
  have HG5 : Hid (Dk.Good D ∧ D.cap ≤ 1099511627776) := by obtain ⟨_, _, _, h⟩ := O5.out.mem; exact ⟨h.good, h.capb⟩
  obtain ⟨N5, hN5⟩ : ∃ N5, D.files.length = N5 := ⟨_, rfl⟩
  have HN5 := keep hN5
  have hN5s : N5 ≤ 1099511627776 := by
    have h1 := used_ge D.files
    have h2 := HG5.out.1.room
    have h3 := HG5.out.2
    omega
  have hNN : (N5 : Int) ≤ (N : Int) + 1 := by have := KL.out; omega
  clear C5 hr hq5 hN5 R4 O4 c0 c2 c3 c4 KL
  go_wp2_with fail
  refine (dump_mem S5 b D w5 O5.out.mem).mono ?_
  rintro e w6 ⟨a6, n6, f6, rfl, _, hst, hpl, hb⟩
  rw [HN5.out] at hst ⊢
  have R6 : Hid (Rows4 (Old w5.heap.size) w6 a6 N5 n6 f6 D.files) := ⟨hst, hpl, HN5.out.symm⟩
  have O6 := keep (O5.out.next hb)
  have RB6 := keep (R5.out.below hb)
  have s6 := keep hb.size
  clear hst hpl hb O5 R5
  go_wp2_with fail
  refine (theirs_any _ a6 N5 n6 f6 _ _ R6.out (by omega) (fun g hg => Nat.lt_of_lt_of_le hg s6.out)).mono ?_
  rintro e w7 ⟨a7, n7, f7, rfl, hr, hb⟩
  have R7 := keep hr
  have RB := keep (RB6.out.below hb)
  have B7 : Hid (Below W0.heap.size W0 w7) := (O6.out.next hb).bel
  clear hr hb R6 O6 RB6 s6
  go_wp2_with fail
  have k4 : N ≤ n4 := RB.out.here.cap
  have k7 : N5 ≤ n7 := R7.out.here.cap
  go_loopw [9] (fun i wr => ∃ t : Nat, t ≤ N ∧ i = .int .i64 (t : Int) ∧ Hid (Below w7.heap.size w7 wr)) (fun i _ => N - (intOf i).toNat)
  case atStart => exact ⟨0, Nat.zero_le _, rfl, Below.refl _ _⟩
  case round =>
    obtain ⟨t, ht, rfl, hb⟩ := hrel
    have t0 : (0 : Int) ≤ (t : Int) := by omega
    rcases Nat.lt_or_ge t N with hlt | hge
    · have t1 : (t : Int) < (N : Int) := by omega
      obtain ⟨f, hf⟩ : ∃ f, d.files[t]? = some f := ⟨d.files[t]'(by rw [HN.out]; exact hlt), List.getElem?_eq_getElem _⟩
      have hmem := List.mem_of_getElem? hf
      have HKE := keep (KE.out f hmem)
      have HFT := keep hf
      obtain ⟨ba, oa, rfl, _, hat⟩ := (RB.out.below hb.out).at_ (by omega)
      obtain ⟨p1, k1, _, a0, _, _⟩ := hat t f hf
      obtain ⟨_, o2, o3, _⟩ := OC.out wr (B7.out.trans (hb.out.mono B7.out.size))
      obtain ⟨nm, sf, fb⟩ := f
      simp only at a0
      clear hat hf hmem
      by_cases h1 : nm = a
      · have y1 : (nm == a) = true := by simpa using h1
        clear h1
        go_wp2_with fail
        go_quiet (fail)
        have hb2 : Hid (Below w7.heap.size w7 (wr.drewN nq)) := hb.out.trans (below_drewN _ _ _)
        go_wp2
        go_roundw
        case rel => exact ⟨t + 1, by omega, by first | rfl | go_num, hb2⟩
        case measure => simp [intOf]; omega
      · have y1 : (nm == a) = false := by simpa using h1
        by_cases h2 : nm = b2
        · have y2 : (nm == b2) = true := by simpa using h2
          clear h1 h2
          go_wp2_with fail
          go_quiet (fail)
          have hb2 : Hid (Below w7.heap.size w7 (wr.drewN nq)) := hb.out.trans (below_drewN _ _ _)
          go_wp2
          go_roundw
          case rel => exact ⟨t + 1, by omega, by first | rfl | go_num, hb2⟩
          case measure => simp [intOf]; omega
        · have y2 : (nm == b2) = false := by simpa using h2
          have HIN : Hid ((⟨nm, sf, fb⟩ : File) ∈ D.files) := HKE.out h1 h2
          clear h1 h2
          go_wp2_with fail
          go_quiet (fail)
          have hb2 : Hid (Below w7.heap.size w7 (wr.drewN nq)) := hb.out.trans (below_drewN _ _ _)
          clear hb a0 o2 o3 y1 y2 HKE
          go_wp2_with fail
          go_loopw [10, 11] (fun x k wi => ∃ (u : Nat) (y : Bool), u ≤ N5 ∧ k = .int .i64 (u : Int) ∧ x = .bool y ∧ Hid (y = true ↔ (⟨nm, sf, fb⟩ : File) ∈ D.files.take u) ∧ Hid (Below w7.heap.size w7 wi)) (fun _ k _ => N5 - (intOf k).toNat)
          case atStart => exact ⟨0, false, Nat.zero_le _, rfl, rfl, by show _ ↔ _; simp, hb2⟩
          case round =>
            obtain ⟨u, y, hu, rfl, rfl, hy, hbi⟩ := hrel
            have u0 : (0 : Int) ≤ (u : Int) := by omega
            rcases Nat.lt_or_ge u N5 with hul | hug
            · have u1 : (u : Int) < (N5 : Int) := by omega
              obtain ⟨g, hg⟩ : ∃ g, D.files[u]? = some g := ⟨D.files[u]'(by rw [HN5.out]; exact hul), List.getElem?_eq_getElem _⟩
              cases y with
              | true =>
                have hn : Hid ((⟨nm, sf, fb⟩ : File) ∈ D.files.take (u + 1)) := by
                  show _ ∈ _
                  rw [List.take_add_one, List.mem_append]
                  exact .inl (hy.out.1 rfl)
                go_wp2_with fail
                go_quiet (fail)
                have hbj : Hid (Below w7.heap.size w7 (wr.drewN nq)) := hbi.out.trans (below_drewN _ _ _)
                go_wp2
                go_roundw
                case rel => exact ⟨u + 1, true, by omega, by first | rfl | go_num, rfl, ⟨fun _ => hn.out, fun _ => rfl⟩, hbj⟩
                case measure => simp [intOf]; omega
              | false =>
                obtain ⟨bc, oc, rfl, _, _⟩ := (R7.out.below hbi.out).at_ (by omega)
                obtain ⟨T1, hT1⟩ : ∃ T1, T1 = t + 1 := ⟨_, rfl⟩
                obtain ⟨U1, hU1⟩ : ∃ U1, U1 = u + 1 := ⟨_, rfl⟩
                have wt : IntKind.i64.wrap ((t : Int) + 1) = (T1 : Int) := by rw [wrap_small _ (by omega) (by omega)]; omega
                have wu : IntKind.i64.wrap ((u : Int) + 1) = (U1 : Int) := by rw [wrap_small _ (by omega) (by omega)]; omega
                have z1 : (t : Int) ≤ (T1 : Int) := by omega
                have z2 : (T1 : Int) ≤ (n4 : Int) := by omega
                have z3 : (u : Int) ≤ (U1 : Int) := by omega
                have z4 : (U1 : Int) ≤ (n7 : Int) := by omega
                have z5 : (0 : Int) ≤ (T1 : Int) := by omega
                have z6 : (0 : Int) ≤ (U1 : Int) := by omega
                have z7 : ¬ n4 = t := by omega
                have z8 : ¬ n7 = u := by omega
                have EU := keep hU1
                have ET := keep hT1
                have SF : Hid (∀ w', Below w7.heap.size w7 w' → Calls Try.prog 19 #[.slice (some ⟨ba, oa + t * 3, none⟩) (T1 - t) (n4 - t), .slice (some ⟨bc, oc + u * 3, none⟩) (U1 - u) (n7 - u)] w' fun e w'' => (∃ x : Bool, e = .returned (.bool x) ∧ (x = true ↔ [(⟨nm, sf, fb⟩ : File)] = [g])) ∧ Below w'.heap.size w' w'') := fun w' hb' => by
                  obtain ⟨e1, q1⟩ := (RB.out.below hb').one HFT.out
                  obtain ⟨e2, q2⟩ := (R7.out.below hb').one hg
                  have x1 : T1 - t = 1 := by omega
                  have x2 : U1 - u = 1 := by omega
                  rw [x1, x2]
                  exact same_files _ 1 (n4 - t) [e1] [(⟨nm, sf, fb⟩ : File)] _ _ 1 (n7 - u) [e2] [g] _ _ q1 q2 (by omega)
                have hn : ∀ x : Bool, (x = true ↔ [(⟨nm, sf, fb⟩ : File)] = [g]) → (x = true ↔ (⟨nm, sf, fb⟩ : File) ∈ D.files.take (u + 1)) := by
                  intro x hx
                  rw [hx, List.take_add_one, List.mem_append, hg]
                  have hno : ¬ (⟨nm, sf, fb⟩ : File) ∈ D.files.take u := fun e => by have := hy.out.2 e; cases this
                  simp [hno]
                have HNN := keep hn
                clear hg hn hT1 hU1
                go_wp2_with fail
                go_region_held3 (fun w' => Below w7.heap.size w7 w') (first | exact hbi.out | exact hbi.out.drew | exact bq.out | exact bq.out.drew | assumption)
                  (first
                    | (go_at_call 19; refine (SF.out _ hbi.out.drew).mono ?_; rintro e wq ⟨⟨x, rfl, hx⟩, hbq⟩; have bq : Hid (Below w7.heap.size w7 wq) := hbi.out.drew.trans (hbq.mono hbi.out.drew.size); have hnx := keep (HNN.out x hx); clear hx hbq))
                go_wp2
                go_roundw
                case rel => exact ⟨U1, x, by have := EU.out; omega, by first | rfl | go_num, by first | rfl | simp, (by rw [EU.out]; exact hnx), bq⟩
                case measure => have := EU.out; simp [intOf]; omega
            · have u1 : ¬ (u : Int) < (N5 : Int) := by omega
              obtain rfl : y = true := hy.out.2 (by rw [List.take_of_length_le (by rw [HN5.out]; exact hug)]; exact HIN.out)
              go_wp2
              go_roundw
              case rel => exact ⟨t + 1, by omega, by first | rfl | go_num, hbi⟩
              case measure => simp [intOf]; omega
    · have t1 : ¬ (t : Int) < (N : Int) := by omega
      have t2 : (N5 : Int) ≤ (N : Int) + 1 := hNN
      go_wp2
      go_ret
      exact ⟨by first | rfl | simp [hNN], V0.out.trans ((B7.out.trans (hb.out.mono B7.out.size)).mono V0.out.size)⟩
set_option maxHeartbeats 4000000 in
set_option maxRecDepth 100000 in
theorem diskApart_2 (ao : Option Addr) (m c : Nat) (es : List OpE) (o : OpE) (w : World) (hs : RSrc opKind w ao m c es) (hc : c ≤ maxLen) (hf : ∀ e ∈ es, Fine e) (hh : opKind.held w o) (hfo : Fine o) (hk : bits BinOp.and IntKind.i64 o.what 3 = 2) :
    Calls Try.prog 8 #[.slice ao m c, .agg (opKind.vals o).toArray] w fun e w' => e = .returned (.bool true) ∧ Below w.heap.size w w' := by
  obtain ⟨wh, z, a, b2, da0, dc0, da, pp, pc, ps⟩ := o
  simp only [opKind]
  obtain ⟨W0, hW⟩ : ∃ W0, w.alloc (.cells #[.int .i64 wh, .int .i64 z, .string ⟨a.toArray⟩, .string ⟨b2.toArray⟩, .slice da0 da.length dc0, .slice pp ps.length pc] 38) = W0 := ⟨_, rfl⟩
  have V0 : Hid (Below w.heap.size w W0) := by rw [← hW]; exact (Below.refl _ _).alloc (Nat.le_refl _) _
  have g0 : Hid (W0.heap[w.heap.size]? = some (.cells #[.int .i64 wh, .int .i64 z, .string ⟨a.toArray⟩, .string ⟨b2.toArray⟩, .slice da0 da.length dc0, .slice pp ps.length pc] 38)) := by rw [← hW]; exact heap_alloc_new w _
  have HF := keep hfo
  have OC : Hid (∀ w', Below W0.heap.size W0 w' → w'.cell? ⟨w.heap.size, 0, none⟩ = some (.int .i64 wh) ∧ w'.cell? ⟨w.heap.size, 2, none⟩ = some (.string ⟨a.toArray⟩) ∧ w'.cell? ⟨w.heap.size, 3, none⟩ = some (.string ⟨b2.toArray⟩) ∧ w'.cell? ⟨w.heap.size, 4, none⟩ = some (.slice da0 da.length dc0)) := fun w' hb =>
    ⟨below_cell hb (cell_of_row _ _ _ _ _ _ g0.out : W0.cell? ⟨w.heap.size, 0, none⟩ = _), below_cell hb (cell_of_row _ _ _ _ _ _ g0.out : W0.cell? ⟨w.heap.size, 2, none⟩ = _), below_cell hb (cell_of_row _ _ _ _ _ _ g0.out : W0.cell? ⟨w.heap.size, 3, none⟩ = _), below_cell hb (cell_of_row _ _ _ _ _ _ g0.out : W0.cell? ⟨w.heap.size, 4, none⟩ = _)⟩
  have SD : Hid (∀ w', Below W0.heap.size W0 w' → Src w' da0 da.length dc0 da) := fun w' hb => ((hh.1 : Src w da0 da.length dc0 da).below V0.out).below hb
  have ha := keep (awake_any W0)
  have HP : Hid (∀ w1, Below W0.heap.size W0 w1 → Calls Try.prog 31 #[.slice ao m c] w1 fun e w' => ∃ S b d, e = .returned (.pointer (some ⟨b, 0, none⟩)) ∧ Own w1 S w' b d ∧ d.cap = 1048575 ∧ d.done ≤ 100) := fun w1 hb => played_any ao m c es w1 (hs.below opKind_ok (V0.out.trans (hb.mono V0.out.size))) hc hf
  have hK : bits BinOp.and IntKind.i64 wh 3 = 2 := hk
  clear hk
  clear hs hf hc hh hfo
  go_enter Try.func8, Try.ntmps8
  go_wp2_with fail
  clear hW
  refine ha.out.mono ?_
  rintro e w1 ⟨rfl, hb1⟩
  have B1 := keep hb1
  clear hb1 ha
  go_wp2_with fail
  refine (HP.out w1 B1.out).mono ?_
  rintro e w2 ⟨S, b, d, rfl, hO, hcap, hdn⟩
  have O2 : Hid (Own W0 S w2 b d) := ⟨hO.mem, fun g hg => Nat.le_trans B1.out.size (hO.news g hg), Nat.le_trans B1.out.size hO.at_, B1.out.trans (hO.bel.mono B1.out.size)⟩
  have HG : Hid (Dk.Good d) := by obtain ⟨_, _, _, h⟩ := hO.mem; exact h.good
  have HDN : Hid (d.done ≤ 4611686018427387904) := Nat.le_trans hdn (by omega)
  have hm2 : Hid (∀ g, Go.Proofs.Ytipkacaekbckhaa.mine S b g → g < w2.heap.size) := fun g hg => (O2.out.mines g hg).2
  obtain ⟨N, hN⟩ : ∃ N, d.files.length = N := ⟨_, rfl⟩
  have HN := keep hN
  have hNs : N ≤ 1048575 := by
    have h1 := used_ge d.files
    have h2 := HG.out.room
    omega
  clear hO hcap hdn HP B1 hN
  go_wp2_with fail
  refine (dump_mem S b d w2 O2.out.mem).mono ?_
  rintro e w3 ⟨a3, n3, f3, rfl, _, hst, hpl, hb⟩
  rw [HN.out] at hst ⊢
  have R3 : Hid (Rows4 (Old w2.heap.size) w3 a3 N n3 f3 d.files) := ⟨hst, hpl, HN.out.symm⟩
  have O3 := keep (O2.out.next hb)
  have s3 := keep hb.size
  clear hst hpl hb O2
  go_wp2_with fail
  refine (theirs_any _ a3 N n3 f3 _ _ R3.out (by omega) (fun g hg => Nat.lt_of_lt_of_le hg s3.out)).mono ?_
  rintro e w4 ⟨a4, n4, f4, rfl, hr, hb⟩
  have R4 := keep hr
  have O4 := keep (O3.out.next hb)
  clear hr hb R3 O3 s3
  obtain ⟨c0, c2, c3, c4⟩ := OC.out w4 O4.out.bel
  go_wp2_with fail
  have C5 := rename_raw S b d a b2 _ O4.out.mem HDN.out []
  refine C5.mono ?_
  intro e w5 hr
  obtain ⟨rfl, hq5⟩ := O4.out.raw hr
  have O5 := keep hq5
  have R5 : Hid (Rows4 (Old w2.heap.size) w5 a4 N n4 f4 d.files) := R4.out.next (hr.2.2.wide (fun g _ hg => hm2.out g hg))
  have KE : Hid (∀ f ∈ d.files, f.name ≠ a → f.name ≠ b2 → f ∈ (Dk.raw d 2 a b2 []).2.files) := fun f hf' hna hnb => by
    have hnm := HG.out.names f hf'
    exact (Dk.raw_keeps _ _ _ _ HG.out).1 f hf' hna (by exact hnb)
  have KL : Hid ((Dk.raw d 2 a b2 []).2.files.length ≤ N + 1) := by
    have h1 := (Dk.raw_keeps (d := d) 2 a b2 [] HG.out).2
    rw [HN.out] at h1
    exact h1
  generalize more S w4 w5 = S5 at O5
  generalize Dk.raw d 2 a b2 [] = X at *
  obtain ⟨xe, D⟩ := X
  simp only at O5 KE KL ⊢
  have HG5 : Hid (Dk.Good D ∧ D.cap ≤ 1099511627776) := by obtain ⟨_, _, _, h⟩ := O5.out.mem; exact ⟨h.good, h.capb⟩
  obtain ⟨N5, hN5⟩ : ∃ N5, D.files.length = N5 := ⟨_, rfl⟩
  have HN5 := keep hN5
  have hN5s : N5 ≤ 1099511627776 := by
    have h1 := used_ge D.files
    have h2 := HG5.out.1.room
    have h3 := HG5.out.2
    omega
  have hNN : (N5 : Int) ≤ (N : Int) + 1 := by have := KL.out; omega
  clear C5 hr hq5 hN5 R4 O4 c0 c2 c3 c4 KL
  go_wp2_with fail
  refine (dump_mem S5 b D w5 O5.out.mem).mono ?_
  rintro e w6 ⟨a6, n6, f6, rfl, _, hst, hpl, hb⟩
  rw [HN5.out] at hst ⊢
  have R6 : Hid (Rows4 (Old w5.heap.size) w6 a6 N5 n6 f6 D.files) := ⟨hst, hpl, HN5.out.symm⟩
  have O6 := keep (O5.out.next hb)
  have RB6 := keep (R5.out.below hb)
  have s6 := keep hb.size
  clear hst hpl hb O5 R5
  go_wp2_with fail
  refine (theirs_any _ a6 N5 n6 f6 _ _ R6.out (by omega) (fun g hg => Nat.lt_of_lt_of_le hg s6.out)).mono ?_
  rintro e w7 ⟨a7, n7, f7, rfl, hr, hb⟩
  have R7 := keep hr
  have RB := keep (RB6.out.below hb)
  have B7 : Hid (Below W0.heap.size W0 w7) := (O6.out.next hb).bel
  clear hr hb R6 O6 RB6 s6
  go_wp2_with fail
  have k4 : N ≤ n4 := RB.out.here.cap
  have k7 : N5 ≤ n7 := R7.out.here.cap
  go_loopw [9] (fun i wr => ∃ t : Nat, t ≤ N ∧ i = .int .i64 (t : Int) ∧ Hid (Below w7.heap.size w7 wr)) (fun i _ => N - (intOf i).toNat)
  case atStart => exact ⟨0, Nat.zero_le _, rfl, Below.refl _ _⟩
  case round =>
    obtain ⟨t, ht, rfl, hb⟩ := hrel
    have t0 : (0 : Int) ≤ (t : Int) := by omega
    rcases Nat.lt_or_ge t N with hlt | hge
    · have t1 : (t : Int) < (N : Int) := by omega
      obtain ⟨f, hf⟩ : ∃ f, d.files[t]? = some f := ⟨d.files[t]'(by rw [HN.out]; exact hlt), List.getElem?_eq_getElem _⟩
      have hmem := List.mem_of_getElem? hf
      have HKE := keep (KE.out f hmem)
      have HFT := keep hf
      obtain ⟨ba, oa, rfl, _, hat⟩ := (RB.out.below hb.out).at_ (by omega)
      obtain ⟨p1, k1, _, a0, _, _⟩ := hat t f hf
      obtain ⟨_, o2, o3, _⟩ := OC.out wr (B7.out.trans (hb.out.mono B7.out.size))
      obtain ⟨nm, sf, fb⟩ := f
      simp only at a0
      clear hat hf hmem
      by_cases h1 : nm = a
      · have y1 : (nm == a) = true := by simpa using h1
        clear h1
        go_wp2_with fail
        go_quiet (fail)
        have hb2 : Hid (Below w7.heap.size w7 (wr.drewN nq)) := hb.out.trans (below_drewN _ _ _)
        go_wp2
        go_roundw
        case rel => exact ⟨t + 1, by omega, by first | rfl | go_num, hb2⟩
        case measure => simp [intOf]; omega
      · have y1 : (nm == a) = false := by simpa using h1
        by_cases h2 : nm = b2
        · have y2 : (nm == b2) = true := by simpa using h2
          clear h1 h2
          go_wp2_with fail
          go_quiet (fail)
          have hb2 : Hid (Below w7.heap.size w7 (wr.drewN nq)) := hb.out.trans (below_drewN _ _ _)
          go_wp2
          go_roundw
          case rel => exact ⟨t + 1, by omega, by first | rfl | go_num, hb2⟩
          case measure => simp [intOf]; omega
        · have y2 : (nm == b2) = false := by simpa using h2
          have HIN : Hid ((⟨nm, sf, fb⟩ : File) ∈ D.files) := HKE.out h1 h2
          clear h1 h2
          go_wp2_with fail
          go_quiet (fail)
          have hb2 : Hid (Below w7.heap.size w7 (wr.drewN nq)) := hb.out.trans (below_drewN _ _ _)
          clear hb a0 o2 o3 y1 y2 HKE
          go_wp2_with fail
          go_loopw [10, 11] (fun x k wi => ∃ (u : Nat) (y : Bool), u ≤ N5 ∧ k = .int .i64 (u : Int) ∧ x = .bool y ∧ Hid (y = true ↔ (⟨nm, sf, fb⟩ : File) ∈ D.files.take u) ∧ Hid (Below w7.heap.size w7 wi)) (fun _ k _ => N5 - (intOf k).toNat)
          case atStart => exact ⟨0, false, Nat.zero_le _, rfl, rfl, by show _ ↔ _; simp, hb2⟩
          case round =>
            obtain ⟨u, y, hu, rfl, rfl, hy, hbi⟩ := hrel
            have u0 : (0 : Int) ≤ (u : Int) := by omega
            rcases Nat.lt_or_ge u N5 with hul | hug
            · have u1 : (u : Int) < (N5 : Int) := by omega
              obtain ⟨g, hg⟩ : ∃ g, D.files[u]? = some g := ⟨D.files[u]'(by rw [HN5.out]; exact hul), List.getElem?_eq_getElem _⟩
              cases y with
              | true =>
                have hn : Hid ((⟨nm, sf, fb⟩ : File) ∈ D.files.take (u + 1)) := by
                  show _ ∈ _
                  rw [List.take_add_one, List.mem_append]
                  exact .inl (hy.out.1 rfl)
                go_wp2_with fail
                go_quiet (fail)
                have hbj : Hid (Below w7.heap.size w7 (wr.drewN nq)) := hbi.out.trans (below_drewN _ _ _)
                go_wp2
                go_roundw
                case rel => exact ⟨u + 1, true, by omega, by first | rfl | go_num, rfl, ⟨fun _ => hn.out, fun _ => rfl⟩, hbj⟩
                case measure => simp [intOf]; omega
              | false =>
                obtain ⟨bc, oc, rfl, _, _⟩ := (R7.out.below hbi.out).at_ (by omega)
                obtain ⟨T1, hT1⟩ : ∃ T1, T1 = t + 1 := ⟨_, rfl⟩
                obtain ⟨U1, hU1⟩ : ∃ U1, U1 = u + 1 := ⟨_, rfl⟩
                have wt : IntKind.i64.wrap ((t : Int) + 1) = (T1 : Int) := by rw [wrap_small _ (by omega) (by omega)]; omega
                have wu : IntKind.i64.wrap ((u : Int) + 1) = (U1 : Int) := by rw [wrap_small _ (by omega) (by omega)]; omega
                have z1 : (t : Int) ≤ (T1 : Int) := by omega
                have z2 : (T1 : Int) ≤ (n4 : Int) := by omega
                have z3 : (u : Int) ≤ (U1 : Int) := by omega
                have z4 : (U1 : Int) ≤ (n7 : Int) := by omega
                have z5 : (0 : Int) ≤ (T1 : Int) := by omega
                have z6 : (0 : Int) ≤ (U1 : Int) := by omega
                have z7 : ¬ n4 = t := by omega
                have z8 : ¬ n7 = u := by omega
                have EU := keep hU1
                have ET := keep hT1
                have SF : Hid (∀ w', Below w7.heap.size w7 w' → Calls Try.prog 19 #[.slice (some ⟨ba, oa + t * 3, none⟩) (T1 - t) (n4 - t), .slice (some ⟨bc, oc + u * 3, none⟩) (U1 - u) (n7 - u)] w' fun e w'' => (∃ x : Bool, e = .returned (.bool x) ∧ (x = true ↔ [(⟨nm, sf, fb⟩ : File)] = [g])) ∧ Below w'.heap.size w' w'') := fun w' hb' => by
                  obtain ⟨e1, q1⟩ := (RB.out.below hb').one HFT.out
                  obtain ⟨e2, q2⟩ := (R7.out.below hb').one hg
                  have x1 : T1 - t = 1 := by omega
                  have x2 : U1 - u = 1 := by omega
                  rw [x1, x2]
                  exact same_files _ 1 (n4 - t) [e1] [(⟨nm, sf, fb⟩ : File)] _ _ 1 (n7 - u) [e2] [g] _ _ q1 q2 (by omega)
                have hn : ∀ x : Bool, (x = true ↔ [(⟨nm, sf, fb⟩ : File)] = [g]) → (x = true ↔ (⟨nm, sf, fb⟩ : File) ∈ D.files.take (u + 1)) := by
                  intro x hx
                  rw [hx, List.take_add_one, List.mem_append, hg]
                  have hno : ¬ (⟨nm, sf, fb⟩ : File) ∈ D.files.take u := fun e => by have := hy.out.2 e; cases this
                  simp [hno]
                have HNN := keep hn
                clear hg hn hT1 hU1
                go_wp2_with fail
                go_region_held3 (fun w' => Below w7.heap.size w7 w') (first | exact hbi.out | exact hbi.out.drew | exact bq.out | exact bq.out.drew | assumption)
                  (first
                    | (go_at_call 19; refine (SF.out _ hbi.out.drew).mono ?_; rintro e wq ⟨⟨x, rfl, hx⟩, hbq⟩; have bq : Hid (Below w7.heap.size w7 wq) := hbi.out.drew.trans (hbq.mono hbi.out.drew.size); have hnx := keep (HNN.out x hx); clear hx hbq))
                go_wp2
                go_roundw
                case rel => exact ⟨U1, x, by have := EU.out; omega, by first | rfl | go_num, by first | rfl | simp, (by rw [EU.out]; exact hnx), bq⟩
                case measure => have := EU.out; simp [intOf]; omega
            · have u1 : ¬ (u : Int) < (N5 : Int) := by omega
              obtain rfl : y = true := hy.out.2 (by rw [List.take_of_length_le (by rw [HN5.out]; exact hug)]; exact HIN.out)
              go_wp2
              go_roundw
              case rel => exact ⟨t + 1, by omega, by first | rfl | go_num, hbi⟩
              case measure => simp [intOf]; omega
    · have t1 : ¬ (t : Int) < (N : Int) := by omega
      have t2 : (N5 : Int) ≤ (N : Int) + 1 := hNN
      go_wp2
      go_ret
      exact ⟨by first | rfl | simp [hNN], V0.out.trans ((B7.out.trans (hb.out.mono B7.out.size)).mono V0.out.size)⟩
set_option maxHeartbeats 4000000 in
set_option maxRecDepth 100000 in
theorem diskApart_3 (ao : Option Addr) (m c : Nat) (es : List OpE) (o : OpE) (w : World) (hs : RSrc opKind w ao m c es) (hc : c ≤ maxLen) (hf : ∀ e ∈ es, Fine e) (hh : opKind.held w o) (hfo : Fine o) (k0 : (bits BinOp.and IntKind.i64 o.what 3 == 0) = false) (k1 : (bits BinOp.and IntKind.i64 o.what 3 == 1) = false) (k2 : (bits BinOp.and IntKind.i64 o.what 3 == 2) = false) :
    Calls Try.prog 8 #[.slice ao m c, .agg (opKind.vals o).toArray] w fun e w' => e = .returned (.bool true) ∧ Below w.heap.size w w' := by
  obtain ⟨wh, z, a, b2, da0, dc0, da, pp, pc, ps⟩ := o
  simp only [opKind]
  obtain ⟨W0, hW⟩ : ∃ W0, w.alloc (.cells #[.int .i64 wh, .int .i64 z, .string ⟨a.toArray⟩, .string ⟨b2.toArray⟩, .slice da0 da.length dc0, .slice pp ps.length pc] 38) = W0 := ⟨_, rfl⟩
  have V0 : Hid (Below w.heap.size w W0) := by rw [← hW]; exact (Below.refl _ _).alloc (Nat.le_refl _) _
  have g0 : Hid (W0.heap[w.heap.size]? = some (.cells #[.int .i64 wh, .int .i64 z, .string ⟨a.toArray⟩, .string ⟨b2.toArray⟩, .slice da0 da.length dc0, .slice pp ps.length pc] 38)) := by rw [← hW]; exact heap_alloc_new w _
  have HF := keep hfo
  have OC : Hid (∀ w', Below W0.heap.size W0 w' → w'.cell? ⟨w.heap.size, 0, none⟩ = some (.int .i64 wh) ∧ w'.cell? ⟨w.heap.size, 2, none⟩ = some (.string ⟨a.toArray⟩) ∧ w'.cell? ⟨w.heap.size, 3, none⟩ = some (.string ⟨b2.toArray⟩) ∧ w'.cell? ⟨w.heap.size, 4, none⟩ = some (.slice da0 da.length dc0)) := fun w' hb =>
    ⟨below_cell hb (cell_of_row _ _ _ _ _ _ g0.out : W0.cell? ⟨w.heap.size, 0, none⟩ = _), below_cell hb (cell_of_row _ _ _ _ _ _ g0.out : W0.cell? ⟨w.heap.size, 2, none⟩ = _), below_cell hb (cell_of_row _ _ _ _ _ _ g0.out : W0.cell? ⟨w.heap.size, 3, none⟩ = _), below_cell hb (cell_of_row _ _ _ _ _ _ g0.out : W0.cell? ⟨w.heap.size, 4, none⟩ = _)⟩
  have SD : Hid (∀ w', Below W0.heap.size W0 w' → Src w' da0 da.length dc0 da) := fun w' hb => ((hh.1 : Src w da0 da.length dc0 da).below V0.out).below hb
  have ha := keep (awake_any W0)
  have HP : Hid (∀ w1, Below W0.heap.size W0 w1 → Calls Try.prog 31 #[.slice ao m c] w1 fun e w' => ∃ S b d, e = .returned (.pointer (some ⟨b, 0, none⟩)) ∧ Own w1 S w' b d ∧ d.cap = 1048575 ∧ d.done ≤ 100) := fun w1 hb => played_any ao m c es w1 (hs.below opKind_ok (V0.out.trans (hb.mono V0.out.size))) hc hf
  clear hs hf hc hh hfo
  go_enter Try.func8, Try.ntmps8
  go_wp2_with fail
  clear hW
  refine ha.out.mono ?_
  rintro e w1 ⟨rfl, hb1⟩
  have B1 := keep hb1
  clear hb1 ha
  go_wp2_with fail
  refine (HP.out w1 B1.out).mono ?_
  rintro e w2 ⟨S, b, d, rfl, hO, hcap, hdn⟩
  have O2 : Hid (Own W0 S w2 b d) := ⟨hO.mem, fun g hg => Nat.le_trans B1.out.size (hO.news g hg), Nat.le_trans B1.out.size hO.at_, B1.out.trans (hO.bel.mono B1.out.size)⟩
  have HG : Hid (Dk.Good d) := by obtain ⟨_, _, _, h⟩ := hO.mem; exact h.good
  have HDN : Hid (d.done ≤ 4611686018427387904) := Nat.le_trans hdn (by omega)
  have hm2 : Hid (∀ g, Go.Proofs.Ytipkacaekbckhaa.mine S b g → g < w2.heap.size) := fun g hg => (O2.out.mines g hg).2
  obtain ⟨N, hN⟩ : ∃ N, d.files.length = N := ⟨_, rfl⟩
  have HN := keep hN
  have hNs : N ≤ 1048575 := by
    have h1 := used_ge d.files
    have h2 := HG.out.room
    omega
  clear hO hcap hdn HP B1 hN
  go_wp2_with fail
  refine (dump_mem S b d w2 O2.out.mem).mono ?_
  rintro e w3 ⟨a3, n3, f3, rfl, _, hst, hpl, hb⟩
  rw [HN.out] at hst ⊢
  have R3 : Hid (Rows4 (Old w2.heap.size) w3 a3 N n3 f3 d.files) := ⟨hst, hpl, HN.out.symm⟩
  have O3 := keep (O2.out.next hb)
  have s3 := keep hb.size
  clear hst hpl hb O2
  go_wp2_with fail
  refine (theirs_any _ a3 N n3 f3 _ _ R3.out (by omega) (fun g hg => Nat.lt_of_lt_of_le hg s3.out)).mono ?_
  rintro e w4 ⟨a4, n4, f4, rfl, hr, hb⟩
  have R4 := keep hr
  have O4 := keep (O3.out.next hb)
  clear hr hb R3 O3 s3
  obtain ⟨c0, c2, c3, c4⟩ := OC.out w4 O4.out.bel
  go_wp2_with fail
  have C5 := remove_raw S b d a _ O4.out.mem HF.out.a HDN.out [] []
  refine C5.mono ?_
  intro e w5 hr
  obtain ⟨rfl, hq5⟩ := O4.out.raw hr
  have O5 := keep hq5
  have R5 : Hid (Rows4 (Old w2.heap.size) w5 a4 N n4 f4 d.files) := R4.out.next (hr.2.2.wide (fun g _ hg => hm2.out g hg))
  have KE : Hid (∀ f ∈ d.files, f.name ≠ a → f.name ≠ b2 → f ∈ (Dk.raw d 3 a [] []).2.files) := fun f hf' hna hnb => by
    have hnm := HG.out.names f hf'
    exact (Dk.raw_keeps _ _ _ _ HG.out).1 f hf' hna (by intro e; rw [e] at hnm; simp [Dk.named] at hnm)
  have KL : Hid ((Dk.raw d 3 a [] []).2.files.length ≤ N + 1) := by
    have h1 := (Dk.raw_keeps (d := d) 3 a [] [] HG.out).2
    rw [HN.out] at h1
    exact h1
  generalize more S w4 w5 = S5 at O5
  generalize Dk.raw d 3 a [] [] = X at *
  obtain ⟨xe, D⟩ := X
  simp only at O5 KE KL ⊢
  have HG5 : Hid (Dk.Good D ∧ D.cap ≤ 1099511627776) := by obtain ⟨_, _, _, h⟩ := O5.out.mem; exact ⟨h.good, h.capb⟩
  obtain ⟨N5, hN5⟩ : ∃ N5, D.files.length = N5 := ⟨_, rfl⟩
  have HN5 := keep hN5
  have hN5s : N5 ≤ 1099511627776 := by
    have h1 := used_ge D.files
    have h2 := HG5.out.1.room
    have h3 := HG5.out.2
    omega
  have hNN : (N5 : Int) ≤ (N : Int) + 1 := by have := KL.out; omega
  clear C5 hr hq5 hN5 R4 O4 c0 c2 c3 c4 KL
  go_wp2_with fail
  refine (dump_mem S5 b D w5 O5.out.mem).mono ?_
  rintro e w6 ⟨a6, n6, f6, rfl, _, hst, hpl, hb⟩
  rw [HN5.out] at hst ⊢
  have R6 : Hid (Rows4 (Old w5.heap.size) w6 a6 N5 n6 f6 D.files) := ⟨hst, hpl, HN5.out.symm⟩
  have O6 := keep (O5.out.next hb)
  have RB6 := keep (R5.out.below hb)
  have s6 := keep hb.size
  clear hst hpl hb O5 R5
  go_wp2_with fail
  refine (theirs_any _ a6 N5 n6 f6 _ _ R6.out (by omega) (fun g hg => Nat.lt_of_lt_of_le hg s6.out)).mono ?_
  rintro e w7 ⟨a7, n7, f7, rfl, hr, hb⟩
  have R7 := keep hr
  have RB := keep (RB6.out.below hb)
  have B7 : Hid (Below W0.heap.size W0 w7) := (O6.out.next hb).bel
  clear hr hb R6 O6 RB6 s6
  go_wp2_with fail
  have k4 : N ≤ n4 := RB.out.here.cap
  have k7 : N5 ≤ n7 := R7.out.here.cap
  go_loopw [9] (fun i wr => ∃ t : Nat, t ≤ N ∧ i = .int .i64 (t : Int) ∧ Hid (Below w7.heap.size w7 wr)) (fun i _ => N - (intOf i).toNat)
  case atStart => exact ⟨0, Nat.zero_le _, rfl, Below.refl _ _⟩
  case round =>
    obtain ⟨t, ht, rfl, hb⟩ := hrel
    have t0 : (0 : Int) ≤ (t : Int) := by omega
    rcases Nat.lt_or_ge t N with hlt | hge
    · have t1 : (t : Int) < (N : Int) := by omega
      obtain ⟨f, hf⟩ : ∃ f, d.files[t]? = some f := ⟨d.files[t]'(by rw [HN.out]; exact hlt), List.getElem?_eq_getElem _⟩
      have hmem := List.mem_of_getElem? hf
      have HKE := keep (KE.out f hmem)
      have HFT := keep hf
      obtain ⟨ba, oa, rfl, _, hat⟩ := (RB.out.below hb.out).at_ (by omega)
      obtain ⟨p1, k1, _, a0, _, _⟩ := hat t f hf
      obtain ⟨_, o2, o3, _⟩ := OC.out wr (B7.out.trans (hb.out.mono B7.out.size))
      obtain ⟨nm, sf, fb⟩ := f
      simp only at a0
      clear hat hf hmem
      by_cases h1 : nm = a
      · have y1 : (nm == a) = true := by simpa using h1
        clear h1
        go_wp2_with fail
        go_quiet (fail)
        have hb2 : Hid (Below w7.heap.size w7 (wr.drewN nq)) := hb.out.trans (below_drewN _ _ _)
        go_wp2
        go_roundw
        case rel => exact ⟨t + 1, by omega, by first | rfl | go_num, hb2⟩
        case measure => simp [intOf]; omega
      · have y1 : (nm == a) = false := by simpa using h1
        by_cases h2 : nm = b2
        · have y2 : (nm == b2) = true := by simpa using h2
          clear h1 h2
          go_wp2_with fail
          go_quiet (fail)
          have hb2 : Hid (Below w7.heap.size w7 (wr.drewN nq)) := hb.out.trans (below_drewN _ _ _)
          go_wp2
          go_roundw
          case rel => exact ⟨t + 1, by omega, by first | rfl | go_num, hb2⟩
          case measure => simp [intOf]; omega
        · have y2 : (nm == b2) = false := by simpa using h2
          have HIN : Hid ((⟨nm, sf, fb⟩ : File) ∈ D.files) := HKE.out h1 h2
          clear h1 h2
          go_wp2_with fail
          go_quiet (fail)
          have hb2 : Hid (Below w7.heap.size w7 (wr.drewN nq)) := hb.out.trans (below_drewN _ _ _)
          clear hb a0 o2 o3 y1 y2 HKE
          go_wp2_with fail
          go_loopw [10, 11] (fun x k wi => ∃ (u : Nat) (y : Bool), u ≤ N5 ∧ k = .int .i64 (u : Int) ∧ x = .bool y ∧ Hid (y = true ↔ (⟨nm, sf, fb⟩ : File) ∈ D.files.take u) ∧ Hid (Below w7.heap.size w7 wi)) (fun _ k _ => N5 - (intOf k).toNat)
          case atStart => exact ⟨0, false, Nat.zero_le _, rfl, rfl, by show _ ↔ _; simp, hb2⟩
          case round =>
            obtain ⟨u, y, hu, rfl, rfl, hy, hbi⟩ := hrel
            have u0 : (0 : Int) ≤ (u : Int) := by omega
            rcases Nat.lt_or_ge u N5 with hul | hug
            · have u1 : (u : Int) < (N5 : Int) := by omega
              obtain ⟨g, hg⟩ : ∃ g, D.files[u]? = some g := ⟨D.files[u]'(by rw [HN5.out]; exact hul), List.getElem?_eq_getElem _⟩
              cases y with
              | true =>
                have hn : Hid ((⟨nm, sf, fb⟩ : File) ∈ D.files.take (u + 1)) := by
                  show _ ∈ _
                  rw [List.take_add_one, List.mem_append]
                  exact .inl (hy.out.1 rfl)
                go_wp2_with fail
                go_quiet (fail)
                have hbj : Hid (Below w7.heap.size w7 (wr.drewN nq)) := hbi.out.trans (below_drewN _ _ _)
                go_wp2
                go_roundw
                case rel => exact ⟨u + 1, true, by omega, by first | rfl | go_num, rfl, ⟨fun _ => hn.out, fun _ => rfl⟩, hbj⟩
                case measure => simp [intOf]; omega
              | false =>
                obtain ⟨bc, oc, rfl, _, _⟩ := (R7.out.below hbi.out).at_ (by omega)
                obtain ⟨T1, hT1⟩ : ∃ T1, T1 = t + 1 := ⟨_, rfl⟩
                obtain ⟨U1, hU1⟩ : ∃ U1, U1 = u + 1 := ⟨_, rfl⟩
                have wt : IntKind.i64.wrap ((t : Int) + 1) = (T1 : Int) := by rw [wrap_small _ (by omega) (by omega)]; omega
                have wu : IntKind.i64.wrap ((u : Int) + 1) = (U1 : Int) := by rw [wrap_small _ (by omega) (by omega)]; omega
                have z1 : (t : Int) ≤ (T1 : Int) := by omega
                have z2 : (T1 : Int) ≤ (n4 : Int) := by omega
                have z3 : (u : Int) ≤ (U1 : Int) := by omega
                have z4 : (U1 : Int) ≤ (n7 : Int) := by omega
                have z5 : (0 : Int) ≤ (T1 : Int) := by omega
                have z6 : (0 : Int) ≤ (U1 : Int) := by omega
                have z7 : ¬ n4 = t := by omega
                have z8 : ¬ n7 = u := by omega
                have EU := keep hU1
                have ET := keep hT1
                have SF : Hid (∀ w', Below w7.heap.size w7 w' → Calls Try.prog 19 #[.slice (some ⟨ba, oa + t * 3, none⟩) (T1 - t) (n4 - t), .slice (some ⟨bc, oc + u * 3, none⟩) (U1 - u) (n7 - u)] w' fun e w'' => (∃ x : Bool, e = .returned (.bool x) ∧ (x = true ↔ [(⟨nm, sf, fb⟩ : File)] = [g])) ∧ Below w'.heap.size w' w'') := fun w' hb' => by
                  obtain ⟨e1, q1⟩ := (RB.out.below hb').one HFT.out
                  obtain ⟨e2, q2⟩ := (R7.out.below hb').one hg
                  have x1 : T1 - t = 1 := by omega
                  have x2 : U1 - u = 1 := by omega
                  rw [x1, x2]
                  exact same_files _ 1 (n4 - t) [e1] [(⟨nm, sf, fb⟩ : File)] _ _ 1 (n7 - u) [e2] [g] _ _ q1 q2 (by omega)
                have hn : ∀ x : Bool, (x = true ↔ [(⟨nm, sf, fb⟩ : File)] = [g]) → (x = true ↔ (⟨nm, sf, fb⟩ : File) ∈ D.files.take (u + 1)) := by
                  intro x hx
                  rw [hx, List.take_add_one, List.mem_append, hg]
                  have hno : ¬ (⟨nm, sf, fb⟩ : File) ∈ D.files.take u := fun e => by have := hy.out.2 e; cases this
                  simp [hno]
                have HNN := keep hn
                clear hg hn hT1 hU1
                go_wp2_with fail
                go_region_held3 (fun w' => Below w7.heap.size w7 w') (first | exact hbi.out | exact hbi.out.drew | exact bq.out | exact bq.out.drew | assumption)
                  (first
                    | (go_at_call 19; refine (SF.out _ hbi.out.drew).mono ?_; rintro e wq ⟨⟨x, rfl, hx⟩, hbq⟩; have bq : Hid (Below w7.heap.size w7 wq) := hbi.out.drew.trans (hbq.mono hbi.out.drew.size); have hnx := keep (HNN.out x hx); clear hx hbq))
                go_wp2
                go_roundw
                case rel => exact ⟨U1, x, by have := EU.out; omega, by first | rfl | go_num, by first | rfl | simp, (by rw [EU.out]; exact hnx), bq⟩
                case measure => have := EU.out; simp [intOf]; omega
            · have u1 : ¬ (u : Int) < (N5 : Int) := by omega
              obtain rfl : y = true := hy.out.2 (by rw [List.take_of_length_le (by rw [HN5.out]; exact hug)]; exact HIN.out)
              go_wp2
              go_roundw
              case rel => exact ⟨t + 1, by omega, by first | rfl | go_num, hbi⟩
              case measure => simp [intOf]; omega
    · have t1 : ¬ (t : Int) < (N : Int) := by omega
      have t2 : (N5 : Int) ≤ (N : Int) + 1 := hNN
      go_wp2
      go_ret
      exact ⟨by first | rfl | simp [hNN], V0.out.trans ((B7.out.trans (hb.out.mono B7.out.size)).mono V0.out.size)⟩
theorem diskApart_walk (ao : Option Addr) (m c : Nat) (es : List OpE) (o : OpE) (w : World) (hs : RSrc opKind w ao m c es) (hc : c ≤ maxLen) (hf : ∀ e ∈ es, Fine e) (hh : opKind.held w o) (hfo : Fine o) :
    Calls Try.prog 8 #[.slice ao m c, .agg (opKind.vals o).toArray] w fun e w' => e = .returned (.bool true) ∧ Below w.heap.size w w' := by
  by_cases h0 : bits BinOp.and IntKind.i64 o.what 3 = 0
  · exact diskApart_0 ao m c es o w hs hc hf hh hfo h0
  by_cases h1 : bits BinOp.and IntKind.i64 o.what 3 = 1
  · exact diskApart_1 ao m c es o w hs hc hf hh hfo h1
  by_cases h2 : bits BinOp.and IntKind.i64 o.what 3 = 2
  · exact diskApart_2 ao m c es o w hs hc hf hh hfo h2
  exact diskApart_3 ao m c es o w hs hc hf hh hfo (by rw [beq_eq_false_iff_ne]; exact h0) (by rw [beq_eq_false_iff_ne]; exact h1) (by rw [beq_eq_false_iff_ne]; exact h2)
end Go.Proofs.Ytipkacaekbckhaa
