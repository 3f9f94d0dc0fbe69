/- The walks of the closure that goes down a tree, and of sides. -/
import Derived.Test.YtelebhcaljepaaaDoorPc
import Derived.Test.YtelebhcaljepaaaDoorMw
namespace Go.Proofs.YtelebhcaljepaaaDoor
open Go.RowKit

/-- What stands beside a way, as a record of three cells. -/
def sideKind : Kind Mt.Sd where
  size := 3
  vals s := [.int .i64 (s.a : Int), .int .i64 (s.b : Int), .bool s.ah]
  held _ _ := True
theorem sideKind_ok : sideKind.Ok :=
  ⟨by decide, fun _ => rfl, fun e u hu => by
    simp only [sideKind, List.mem_cons, List.not_mem_nil, or_false] at hu
    rcases hu with rfl | rfl | rfl <;> rfl, fun _ _ => trivial⟩
theorem infoD : (Tryd.prog.info? 81).map (fun i => (i.zero, i.size, i.bytes)) = some (some (.agg #[.int .i64 0, .int .i64 0, .bool false]), 3, 24) := by kernel_rfl
theorem own_same {w w' : World} {B t k n : Nat} {v : Value} {xs : List Value} (h : w.ownsRow B t k v n xs) (hb : ∀ g, B ≤ g → w'.heap[g]? = w.heap[g]?) : w'.ownsRow B t k v n xs := by
  obtain ⟨h1, h2⟩ := h
  refine ⟨h1, ?_⟩
  rcases h2 with h2 | ⟨g, cap, cur, e, hB, hh, r⟩
  · exact .inl h2
  · exact .inr ⟨g, cap, cur, e, hB, (hb g hB).trans hh, r⟩
/-- The closure. -/
def downV (H : Nat) : Value := .func (.func 67) #[] #[.pointer (some ⟨H + 1, 0, none⟩), .pointer (some ⟨H, 0, none⟩), .pointer (some ⟨H + 3, 0, none⟩), .pointer (some ⟨H + 2, 0, none⟩)]
/-- The four variables of sides in memory, L in its row so far. -/
structure Dn (H : Nat) (Ev : Value) (i : Nat) (w0 w : World) (L : List Mt.Sd) : Prop where
  sz : H + 4 ≤ w.heap.size
  ci : w.cell? ⟨H, 0, none⟩ = some (.int .i64 (i : Int))
  ce : w.cell? ⟨H + 1, 0, none⟩ = some Ev
  cd : w.cell? ⟨H + 3, 0, none⟩ = some (downV H)
  row : ∃ v, w.heap[H + 2]? = some (.cells #[v] 49) ∧ w.ownsRow (H + 4) 81 3 v L.length (rv sideKind L)
  low : Below H w0 w
theorem Dn.below {H : Nat} {Ev : Value} {i : Nat} {w0 w w' : World} {L : List Mt.Sd} (h : Dn H Ev i w0 w L) (hb : Below w.heap.size w w') : Dn H Ev i w0 w' L := by
  obtain ⟨v, h1, h2⟩ := h.row
  exact ⟨Nat.le_trans h.sz hb.size, below_cell hb h.ci, below_cell hb h.ce, below_cell hb h.cd, ⟨v, (hb.block _ (by have := h.sz; omega)).trans h1, own_next h2 hb⟩, h.low.trans (hb.mono (by have := h.sz; omega))⟩
/-- One more is laid at the row's end. -/
theorem Dn.put {H : Nat} {Ev : Value} {i : Nat} {w0 w w1 w2 : World} {L : List Mt.Sd} (h : Dn H Ev i w0 w L) (hb : Below w.heap.size w w1) {s : Mt.Sd} {v v' : Value} (hv : w.cell? ⟨H + 2, 0, none⟩ = some v) (ho : w2.ownsRow (H + 4) 81 3 v' (L.length + 1) (rv sideKind (L ++ [s]))) (hg : w1.grownBy w2 v.ownBlock) :
    Dn H Ev i w0 (w2.setCell ⟨H + 2, 0, none⟩ v') (L ++ [s]) ∧ w.heap.size ≤ (w2.setCell ⟨H + 2, 0, none⟩ v').heap.size ∧ w2.cell? ⟨H + 2, 0, none⟩ = some v ∧ w2.frozen? ⟨H + 2, 0, none⟩ = false := by
  obtain ⟨u, h1, h2⟩ := h.row
  have e : u = v := by
    have : w.cell? ⟨H + 2, 0, none⟩ = some u := cell_of_row _ _ _ _ _ _ h1
    rw [this] at hv
    exact Option.some.inj hv
  subst e
  have hsz := h.sz
  have h3 := own_next h2 hb
  have D1 := h.below hb
  have hsz1 := D1.sz
  obtain ⟨u1, g1, _⟩ := D1.row
  have blk : ∀ g, g < H + 4 → w2.heap[g]? = w1.heap[g]? := fun g hg' => hg.block g (by omega) (fun e => by have := (h3.lt g e.symm).1; omega)
  have cel : ∀ p : Addr, p.block < H + 4 → w2.cell? p = w1.cell? p := fun p hp => World.cell?_of_block (blk p.block hp)
  have r2 : w2.heap[H + 2]? = some (.cells #[u] 49) := ((blk (H + 2) (by omega)).trans (hb.block _ (by omega))).trans h1
  have sz2 : (w2.setCell ⟨H + 2, 0, none⟩ v').heap.size = w2.heap.size := by simp only [World.setCell, Array.size_modify]
  have oth : ∀ (b : Nat) , b ≠ H + 2 → b < H + 4 → (w2.setCell ⟨H + 2, 0, none⟩ v').cell? ⟨b, 0, none⟩ = w1.cell? ⟨b, 0, none⟩ := fun b hne hlt =>
    (World.cell?_of_block (Below.heap_setCell w2 ⟨H + 2, 0, none⟩ v' b hne)).trans (cel _ hlt)
  refine ⟨⟨by rw [sz2]; exact Nat.le_trans hsz1 hg.size, (oth H (by omega) (by omega)).trans D1.ci, (oth (H + 1) (by omega) (by omega)).trans D1.ce, (oth (H + 3) (by omega) (by omega)).trans D1.cd, ⟨v', ?_, ?_⟩, ?_⟩, by rw [sz2]; exact Nat.le_trans hb.size hg.size, cell_of_row _ _ _ _ _ _ r2, by simp [World.frozen?, r2]⟩
  · have := put_row ((blk (H + 2) (by omega)).trans g1) 0 v'
    simpa using this
  · rw [List.length_append]
    exact own_same ho (fun g hg' => Below.heap_setCell w2 ⟨H + 2, 0, none⟩ v' g (by show ¬ g = H + 2; omega))
  · exact (D1.low.grown hg (by omega) (fun k hk => by have := (h3.lt k hk).1; omega)).setCell (p := ⟨H + 2, 0, none⟩) (by show H ≤ H + 2; omega) v'
set_option maxHeartbeats 4000000 in
set_option maxRecDepth 100000 in
theorem down_any (H F : Nat) (lb : Array Value) (E : Nat → Nat → Bool) (i : Nat) (w0 : World) (hF : ∀ (args : Array Value) (w : World), (callFunc F args).run Tryd.prog w = .ok (.enter F args) w) (hE1 : ∀ a, a ≤ i → i < a + 1 → E a (a + 1) = true)
    (hEc : ∀ (a b : Nat) (w : World), a < b → b ≤ 1099511627776 → Below H w0 w → Calls Tryd.prog F (#[.int .i64 (a : Int), .int .i64 (b : Int)] ++ lb) w fun e w' => e = .returned (.bool (E a b)) ∧ w' = w) :
    ∀ (d a b : Nat), b - a = d → a ≤ i → i < b → b ≤ 1099511627776 → ∀ (L : List Mt.Sd) (w : World), L.length + Mt.lv d ≤ 1000 → Dn H (.func (.func F) #[] lb) i w0 w L →
    Calls Tryd.prog 67 #[.int .i64 (a : Int), .int .i64 (b : Int), .pointer (some ⟨H + 1, 0, none⟩), .pointer (some ⟨H, 0, none⟩), .pointer (some ⟨H + 3, 0, none⟩), .pointer (some ⟨H + 2, 0, none⟩)] w fun e w' =>
      e = .returned (.int .i64 ((Mt.way E i a b).2 : Int)) ∧ Dn H (.func (.func F) #[] lb) i w0 w' (L ++ (Mt.way E i a b).1) ∧ w.heap.size ≤ w'.heap.size := by
  obtain ⟨i0, hi0, hz0, hz1, hz2⟩ := info_partsS infoD
  have HF := keep hF
  have HE1 := keep hE1
  clear hF hE1
  intro d
  induction d using Nat.strongRecOn with
  | _ d ih =>
    intro a b hd ha hb hbm L w hLl hD
    have IH := keep ih
    have HD := keep hD
    have hab : a < b := by omega
    have EC := keep (hEc a b w hab hbm hD.low)
    have ci := hD.ci
    have ce := hD.ce
    have cd := hD.cd
    clear ih hD
    cases hee : E a b with
    | true =>
      rw [hee] at EC
      have hw : Mt.way E i a b = ([], a) := Mt.way_end hee
      rw [hw, List.append_nil]
      simp only
      clear hee hw
      go_enter Tryd.func67, Tryd.ntmps67
      go_wp2_with fail
      rw [HF.out, Oper.upon_enter]
      refine EC.out.mono ?_
      rintro e w1 ⟨rfl, rfl⟩
      go_wp2
      go_ret
      exact ⟨rfl, HD.out, Nat.le_refl _⟩
    | false =>
      rw [hee] at EC
      have h2 : 2 ≤ b - a := by
        rcases Nat.lt_or_ge (b - a) 2 with h | h
        · have : b = a + 1 := by omega
          subst this
          rw [HE1.out a ha (by omega)] at hee
          cases hee
        · exact h
      have hlt := Mt.cut_lt h2
      have hpo := Mt.cut_pos (b - a)
      have hv := Mt.lv_pos h2
      have e1 : (b : Int) - (a : Int) = ((b - a : Nat) : Int) := by omega
      have CU := keep (cut_any (b - a) w h2 (by omega))
      by_cases hi : i < a + Mt.cut (b - a)
      · have hw := Mt.way_left (E := E) hee h2 hi
        have hin := Mt.way_in (E := E) (i := i) HE1.out (Mt.cut (b - a)) a (a + Mt.cut (b - a)) (by omega) ha hi
        have hlw := hin.2.2.2
        rw [Mt.cut_lv] at hlw
        have RC := keep (fun w1 => IH.out (Mt.cut (b - a)) (by omega) a (a + Mt.cut (b - a)) (by omega) ha hi (by omega) L w1 (by rw [Mt.cut_lv, hd]; omega))
        rw [hw]
        simp only
        have hLl2 : L.length + Mt.lv (b - a) ≤ 1000 := by rw [hd]; exact hLl
        obtain ⟨k, hk⟩ : ∃ k, Mt.cut (b - a) = k := ⟨_, rfl⟩
        rw [hk] at hlt hpo CU hi hlw RC ⊢
        obtain ⟨M, hM⟩ : ∃ M, a + k = M := ⟨_, rfl⟩
        have e2 : (a : Int) + (k : Int) = (M : Int) := by omega
        rw [hM] at hi hlw RC ⊢
        obtain ⟨⟨R1, en⟩, hR⟩ : ∃ R, Mt.way E i a M = R := ⟨_, rfl⟩
        rw [hR] at hlw RC ⊢
        simp only at hlw RC ⊢
        have iM : (i : Int) < (M : Int) := by omega
        have M0 : (0 : Int) ≤ (M : Int) := by omega
        have M1 : (M : Int) ≤ 1099511627776 := by omega
        have ML : Hid (M < b ∧ b ≤ 1099511627776) := ⟨by omega, hbm⟩
        have LL : Hid ((L ++ R1).length + 1 ≤ 1000) := by show _ ≤ _; rw [List.length_append]; omega
        clear hw hin hlw hR hk hM hLl hLl2 hee hlt hpo hv hd IH
        go_enter Tryd.func67, Tryd.ntmps67
        go_wp2_with fail
        rw [HF.out, Oper.upon_enter]
        refine EC.out.mono ?_
        rintro e w1 ⟨rfl, rfl⟩
        go_wp2_with fail
        refine CU.out.mono ?_
        rintro e w2 ⟨rfl, hb2⟩
        have D2 := keep (HD.out.below hb2)
        have S2 := keep hb2.size
        have ci2 := D2.out.ci
        have cd2 := D2.out.cd
        unfold downV at cd2
        clear hb2 CU ci ce cd EC
        go_wp2_with fail
        refine (RC.out w2 D2.out).mono ?_
        rintro e w3 ⟨rfl, hD3, hs3⟩
        have D3 := keep hD3
        have S3 := keep (Nat.le_trans S2.out hs3)
        obtain ⟨v3, r3, o3⟩ := hD3.row
        have cr : w3.cell? ⟨H + 2, 0, none⟩ = some v3 := cell_of_row _ _ _ _ _ _ r3
        have CR := keep cr
        have O3 := keep o3
        clear r3 o3 hD3 hs3 RC ci2 cd2
        have rc := keep (rec_cells (k := sideKind) w3 81 ⟨M, b, false⟩)
        have b4 : Hid (Below w3.heap.size w3 (w3.alloc (.cells #[.int .i64 (M : Int), .int .i64 (b : Int), .bool false] 81))) := (Below.refl _ _).alloc (Nat.le_refl _) _
        have HH : Hid (H + 4 ≤ w3.heap.size) := D3.out.sz
        go_wp2_with (at_builtin; go_loud (refine wpList_append_rec sideKind_ok rfl _ _ 49 81 rfl (H + 4) i0 _ 24 Tryd.underlying49 hi0 hz0 hz1 hz2 rfl v3 _ (L ++ R1) rfl (own_next O3.out b4.out) _ 1 ⟨M, b, false⟩ rfl rc.out (by have := LL.out; unfold maxLen; omega) (by have := LL.out; omega) (Nat.le_trans HH.out b4.out.size) ?_); intro v7 w7 ho7 hg7; obtain ⟨a7, c7, rfl⟩ := own_is ho7; have PT := keep (D3.out.put b4.out CR.out ho7 hg7); have q7 := PT.out.2.2.1; have f7 := PT.out.2.2.2; clear ho7 hg7)
        go_ret
        have PT2 := PT.out
        rw [List.length_append] at PT2
        refine ⟨rfl, ?_, Nat.le_trans S3.out PT2.2.1⟩
        rw [← List.append_assoc]
        exact PT2.1
      · have hw := Mt.way_right (E := E) hee h2 hi
        have hin := Mt.way_in (E := E) (i := i) HE1.out (b - a - Mt.cut (b - a)) (a + Mt.cut (b - a)) b (by omega) (by omega) hb
        have hlw := hin.2.2.2
        have hcr := Mt.cut_rest h2
        have RC := keep (fun w1 => IH.out (b - a - Mt.cut (b - a)) (by omega) (a + Mt.cut (b - a)) b (by omega) (by omega) hb hbm L w1 (by rw [hd] at hcr ⊢; omega))
        rw [hw]
        simp only
        have hLl2 : L.length + Mt.lv (b - a) ≤ 1000 := by rw [hd]; exact hLl
        obtain ⟨k, hk⟩ : ∃ k, Mt.cut (b - a) = k := ⟨_, rfl⟩
        rw [hk] at hlt hpo CU hi hlw hcr RC ⊢
        obtain ⟨M, hM⟩ : ∃ M, a + k = M := ⟨_, rfl⟩
        have e2 : (a : Int) + (k : Int) = (M : Int) := by omega
        rw [hM] at hi hlw RC ⊢
        obtain ⟨⟨R1, en⟩, hR⟩ : ∃ R, Mt.way E i M b = R := ⟨_, rfl⟩
        rw [hR] at hlw RC ⊢
        simp only at hlw RC ⊢
        have iM : ¬ (i : Int) < (M : Int) := by omega
        have M0 : (0 : Int) ≤ (M : Int) := by omega
        have M1 : (M : Int) ≤ 1099511627776 := by omega
        have ML : Hid (M < b ∧ b ≤ 1099511627776) := ⟨by omega, hbm⟩
        have LL : Hid ((L ++ R1).length + 1 ≤ 1000) := by show _ ≤ _; rw [List.length_append]; omega
        clear hw hin hlw hR hk hM hLl hLl2 hcr hee hlt hpo hv hd IH
        go_enter Tryd.func67, Tryd.ntmps67
        go_wp2_with fail
        rw [HF.out, Oper.upon_enter]
        refine EC.out.mono ?_
        rintro e w1 ⟨rfl, rfl⟩
        go_wp2_with fail
        refine CU.out.mono ?_
        rintro e w2 ⟨rfl, hb2⟩
        have D2 := keep (HD.out.below hb2)
        have S2 := keep hb2.size
        have ci2 := D2.out.ci
        have cd2 := D2.out.cd
        unfold downV at cd2
        clear hb2 CU ci ce cd EC
        go_wp2_with fail
        refine (RC.out w2 D2.out).mono ?_
        rintro e w3 ⟨rfl, hD3, hs3⟩
        have D3 := keep hD3
        have S3 := keep (Nat.le_trans S2.out hs3)
        obtain ⟨v3, r3, o3⟩ := hD3.row
        have cr : w3.cell? ⟨H + 2, 0, none⟩ = some v3 := cell_of_row _ _ _ _ _ _ r3
        have CR := keep cr
        have O3 := keep o3
        clear r3 o3 hD3 hs3 RC ci2 cd2
        have rc := keep (rec_cells (k := sideKind) w3 81 ⟨a, M, true⟩)
        have b4 : Hid (Below w3.heap.size w3 (w3.alloc (.cells #[.int .i64 (a : Int), .int .i64 (M : Int), .bool true] 81))) := (Below.refl _ _).alloc (Nat.le_refl _) _
        have HH : Hid (H + 4 ≤ w3.heap.size) := D3.out.sz
        go_wp2_with (at_builtin; go_loud (refine wpList_append_rec sideKind_ok rfl _ _ 49 81 rfl (H + 4) i0 _ 24 Tryd.underlying49 hi0 hz0 hz1 hz2 rfl v3 _ (L ++ R1) rfl (own_next O3.out b4.out) _ 1 ⟨a, M, true⟩ rfl rc.out (by have := LL.out; unfold maxLen; omega) (by have := LL.out; omega) (Nat.le_trans HH.out b4.out.size) ?_); intro v7 w7 ho7 hg7; obtain ⟨a7, c7, rfl⟩ := own_is ho7; have PT := keep (D3.out.put b4.out CR.out ho7 hg7); have q7 := PT.out.2.2.1; have f7 := PT.out.2.2.2; clear ho7 hg7)
        go_ret
        have PT2 := PT.out
        rw [List.length_append] at PT2
        refine ⟨rfl, ?_, Nat.le_trans S3.out PT2.2.1⟩
        rw [← List.append_assoc]
        exact PT2.1
end Go.Proofs.YtelebhcaljepaaaDoor
