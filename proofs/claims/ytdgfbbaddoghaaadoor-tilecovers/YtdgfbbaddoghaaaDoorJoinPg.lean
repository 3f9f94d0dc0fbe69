/- The walks of the closure that goes down a tree, and of sides. -/
/- The walks of sides, toLeaf, toEnd. -/
/- The walk of roots. -/
/- The walks of Path and Proof. -/
import Derived.Test.YtdgfbbaddoghaaaDoorPc
import Derived.Test.YtdgfbbaddoghaaaDoorMw
namespace Go.Proofs.YtdgfbbaddoghaaaDoor
open Go.RowKit

/-- What stands beside a way, as a record of three cells. -/
def sideKind : Kind Mt.Sd where
  size := 3
  vals s := [.int .i64 (s.a : Int), .int .i64 (s.b : Int), .bool s.ah]
  held _ _ := True
theorem sideKind_ok : sideKind.Ok :=
  ⟨by decide, fun _ => rfl, fun e u hu => by
    simp only [sideKind, List.mem_cons, List.not_mem_nil, or_false] at hu
    rcases hu with rfl | rfl | rfl <;> rfl, fun _ _ => trivial⟩
theorem infoD : (Tryd.prog.info? 68).map (fun i => (i.zero, i.size, i.bytes)) = some (some (.agg #[.int .i64 0, .int .i64 0, .bool false]), 3, 24) := by kernel_rfl
theorem own_same {w w' : World} {B t k n : Nat} {v : Value} {xs : List Value} (h : w.ownsRow B t k v n xs) (hb : ∀ g, B ≤ g → w'.heap[g]? = w.heap[g]?) : w'.ownsRow B t k v n xs := by
  obtain ⟨h1, h2⟩ := h
  refine ⟨h1, ?_⟩
  rcases h2 with h2 | ⟨g, cap, cur, e, hB, hh, r⟩
  · exact .inl h2
  · exact .inr ⟨g, cap, cur, e, hB, (hb g hB).trans hh, r⟩
/-- The closure. -/
def downV (H : Nat) : Value := .func (.func 54) #[] #[.pointer (some ⟨H + 1, 0, none⟩), .pointer (some ⟨H, 0, none⟩), .pointer (some ⟨H + 3, 0, none⟩), .pointer (some ⟨H + 2, 0, none⟩)]
/-- The four variables of sides in memory, L in its row so far. -/
structure Dn (H : Nat) (Ev : Value) (i : Nat) (w0 w : World) (L : List Mt.Sd) : Prop where
  sz : H + 4 ≤ w.heap.size
  ci : w.cell? ⟨H, 0, none⟩ = some (.int .i64 (i : Int))
  ce : w.cell? ⟨H + 1, 0, none⟩ = some Ev
  cd : w.cell? ⟨H + 3, 0, none⟩ = some (downV H)
  row : ∃ v, w.heap[H + 2]? = some (.cells #[v] 50) ∧ w.ownsRow (H + 4) 68 3 v L.length (rv sideKind L)
  low : Below H w0 w
theorem Dn.below {H : Nat} {Ev : Value} {i : Nat} {w0 w w' : World} {L : List Mt.Sd} (h : Dn H Ev i w0 w L) (hb : Below w.heap.size w w') : Dn H Ev i w0 w' L := by
  obtain ⟨v, h1, h2⟩ := h.row
  exact ⟨Nat.le_trans h.sz hb.size, below_cell hb h.ci, below_cell hb h.ce, below_cell hb h.cd, ⟨v, (hb.block _ (by have := h.sz; omega)).trans h1, own_next h2 hb⟩, h.low.trans (hb.mono (by have := h.sz; omega))⟩
/-- One more is laid at the row's end. -/
theorem Dn.put {H : Nat} {Ev : Value} {i : Nat} {w0 w w1 w2 : World} {L : List Mt.Sd} (h : Dn H Ev i w0 w L) (hb : Below w.heap.size w w1) {s : Mt.Sd} {v v' : Value} (hv : w.cell? ⟨H + 2, 0, none⟩ = some v) (ho : w2.ownsRow (H + 4) 68 3 v' (L.length + 1) (rv sideKind (L ++ [s]))) (hg : w1.grownBy w2 v.ownBlock) :
    Dn H Ev i w0 (w2.setCell ⟨H + 2, 0, none⟩ v') (L ++ [s]) ∧ w.heap.size ≤ (w2.setCell ⟨H + 2, 0, none⟩ v').heap.size ∧ w2.cell? ⟨H + 2, 0, none⟩ = some v ∧ w2.frozen? ⟨H + 2, 0, none⟩ = false := by
  obtain ⟨u, h1, h2⟩ := h.row
  have e : u = v := by
    have : w.cell? ⟨H + 2, 0, none⟩ = some u := cell_of_row _ _ _ _ _ _ h1
    rw [this] at hv
    exact Option.some.inj hv
  subst e
  have hsz := h.sz
  have h3 := own_next h2 hb
  have D1 := h.below hb
  have hsz1 := D1.sz
  obtain ⟨u1, g1, _⟩ := D1.row
  have blk : ∀ g, g < H + 4 → w2.heap[g]? = w1.heap[g]? := fun g hg' => hg.block g (by omega) (fun e => by have := (h3.lt g e.symm).1; omega)
  have cel : ∀ p : Addr, p.block < H + 4 → w2.cell? p = w1.cell? p := fun p hp => World.cell?_of_block (blk p.block hp)
  have r2 : w2.heap[H + 2]? = some (.cells #[u] 50) := ((blk (H + 2) (by omega)).trans (hb.block _ (by omega))).trans h1
  have sz2 : (w2.setCell ⟨H + 2, 0, none⟩ v').heap.size = w2.heap.size := by simp only [World.setCell, Array.size_modify]
  have oth : ∀ (b : Nat) , b ≠ H + 2 → b < H + 4 → (w2.setCell ⟨H + 2, 0, none⟩ v').cell? ⟨b, 0, none⟩ = w1.cell? ⟨b, 0, none⟩ := fun b hne hlt =>
    (World.cell?_of_block (Below.heap_setCell w2 ⟨H + 2, 0, none⟩ v' b hne)).trans (cel _ hlt)
  refine ⟨⟨by rw [sz2]; exact Nat.le_trans hsz1 hg.size, (oth H (by omega) (by omega)).trans D1.ci, (oth (H + 1) (by omega) (by omega)).trans D1.ce, (oth (H + 3) (by omega) (by omega)).trans D1.cd, ⟨v', ?_, ?_⟩, ?_⟩, by rw [sz2]; exact Nat.le_trans hb.size hg.size, cell_of_row _ _ _ _ _ _ r2, by simp [World.frozen?, r2]⟩
  · have := put_row ((blk (H + 2) (by omega)).trans g1) 0 v'
    simpa using this
  · rw [List.length_append]
    exact own_same ho (fun g hg' => Below.heap_setCell w2 ⟨H + 2, 0, none⟩ v' g (by show ¬ g = H + 2; omega))
  · exact (D1.low.grown hg (by omega) (fun k hk => by have := (h3.lt k hk).1; omega)).setCell (p := ⟨H + 2, 0, none⟩) (by show H ≤ H + 2; omega) v'
set_option maxHeartbeats 4000000 in
set_option maxRecDepth 100000 in
theorem down_any (H F : Nat) (lb : Array Value) (E : Nat → Nat → Bool) (i : Nat) (w0 : World) (hF : ∀ (args : Array Value) (w : World), (callFunc F args).run Tryd.prog w = .ok (.enter F args) w) (hE1 : ∀ a, a ≤ i → i < a + 1 → E a (a + 1) = true)
    (hEc : ∀ (a b : Nat) (w : World), a < b → b ≤ 1099511627776 → Below H w0 w → Calls Tryd.prog F (#[.int .i64 (a : Int), .int .i64 (b : Int)] ++ lb) w fun e w' => e = .returned (.bool (E a b)) ∧ w' = w) :
    ∀ (d a b : Nat), b - a = d → a ≤ i → i < b → b ≤ 1099511627776 → ∀ (L : List Mt.Sd) (w : World), L.length + Mt.lv d ≤ 1000 → Dn H (.func (.func F) #[] lb) i w0 w L →
    Calls Tryd.prog 54 #[.int .i64 (a : Int), .int .i64 (b : Int), .pointer (some ⟨H + 1, 0, none⟩), .pointer (some ⟨H, 0, none⟩), .pointer (some ⟨H + 3, 0, none⟩), .pointer (some ⟨H + 2, 0, none⟩)] w fun e w' =>
      e = .returned (.int .i64 ((Mt.way E i a b).2 : Int)) ∧ Dn H (.func (.func F) #[] lb) i w0 w' (L ++ (Mt.way E i a b).1) ∧ w.heap.size ≤ w'.heap.size := by
  obtain ⟨i0, hi0, hz0, hz1, hz2⟩ := info_partsS infoD
  have HF := keep hF
  have HE1 := keep hE1
  clear hF hE1
  intro d
  induction d using Nat.strongRecOn with
  | _ d ih =>
    intro a b hd ha hb hbm L w hLl hD
    have IH := keep ih
    have HD := keep hD
    have hab : a < b := by omega
    have EC := keep (hEc a b w hab hbm hD.low)
    have ci := hD.ci
    have ce := hD.ce
    have cd := hD.cd
    clear ih hD
    cases hee : E a b with
    | true =>
      rw [hee] at EC
      have hw : Mt.way E i a b = ([], a) := Mt.way_end hee
      rw [hw, List.append_nil]
      simp only
      clear hee hw
      go_enter Tryd.func54, Tryd.ntmps54
      go_wp2_with fail
      rw [HF.out, Oper.upon_enter]
      refine EC.out.mono ?_
      rintro e w1 ⟨rfl, rfl⟩
      go_wp2
      go_ret
      exact ⟨rfl, HD.out, Nat.le_refl _⟩
    | false =>
      rw [hee] at EC
      have h2 : 2 ≤ b - a := by
        rcases Nat.lt_or_ge (b - a) 2 with h | h
        · have : b = a + 1 := by omega
          subst this
          rw [HE1.out a ha (by omega)] at hee
          cases hee
        · exact h
      have hlt := Mt.cut_lt h2
      have hpo := Mt.cut_pos (b - a)
      have hv := Mt.lv_pos h2
      have e1 : (b : Int) - (a : Int) = ((b - a : Nat) : Int) := by omega
      have CU := keep (cut_any (b - a) w h2 (by omega))
      by_cases hi : i < a + Mt.cut (b - a)
      · have hw := Mt.way_left (E := E) hee h2 hi
        have hin := Mt.way_in (E := E) (i := i) HE1.out (Mt.cut (b - a)) a (a + Mt.cut (b - a)) (by omega) ha hi
        have hlw := hin.2.2.2
        rw [Mt.cut_lv] at hlw
        have RC := keep (fun w1 => IH.out (Mt.cut (b - a)) (by omega) a (a + Mt.cut (b - a)) (by omega) ha hi (by omega) L w1 (by rw [Mt.cut_lv, hd]; omega))
        rw [hw]
        simp only
        have hLl2 : L.length + Mt.lv (b - a) ≤ 1000 := by rw [hd]; exact hLl
        obtain ⟨k, hk⟩ : ∃ k, Mt.cut (b - a) = k := ⟨_, rfl⟩
        rw [hk] at hlt hpo CU hi hlw RC ⊢
        obtain ⟨M, hM⟩ : ∃ M, a + k = M := ⟨_, rfl⟩
        have e2 : (a : Int) + (k : Int) = (M : Int) := by omega
        rw [hM] at hi hlw RC ⊢
        obtain ⟨⟨R1, en⟩, hR⟩ : ∃ R, Mt.way E i a M = R := ⟨_, rfl⟩
        rw [hR] at hlw RC ⊢
        simp only at hlw RC ⊢
        have iM : (i : Int) < (M : Int) := by omega
        have M0 : (0 : Int) ≤ (M : Int) := by omega
        have M1 : (M : Int) ≤ 1099511627776 := by omega
        have ML : Hid (M < b ∧ b ≤ 1099511627776) := ⟨by omega, hbm⟩
        have LL : Hid ((L ++ R1).length + 1 ≤ 1000) := by show _ ≤ _; rw [List.length_append]; omega
        clear hw hin hlw hR hk hM hLl hLl2 hee hlt hpo hv hd IH
        go_enter Tryd.func54, Tryd.ntmps54
        go_wp2_with fail
        rw [HF.out, Oper.upon_enter]
        refine EC.out.mono ?_
        rintro e w1 ⟨rfl, rfl⟩
        go_wp2_with fail
        refine CU.out.mono ?_
        rintro e w2 ⟨rfl, hb2⟩
        have D2 := keep (HD.out.below hb2)
        have S2 := keep hb2.size
        have ci2 := D2.out.ci
        have cd2 := D2.out.cd
        unfold downV at cd2
        clear hb2 CU ci ce cd EC
        go_wp2_with fail
        refine (RC.out w2 D2.out).mono ?_
        rintro e w3 ⟨rfl, hD3, hs3⟩
        have D3 := keep hD3
        have S3 := keep (Nat.le_trans S2.out hs3)
        obtain ⟨v3, r3, o3⟩ := hD3.row
        have cr : w3.cell? ⟨H + 2, 0, none⟩ = some v3 := cell_of_row _ _ _ _ _ _ r3
        have CR := keep cr
        have O3 := keep o3
        clear r3 o3 hD3 hs3 RC ci2 cd2
        have rc := keep (rec_cells (k := sideKind) w3 68 ⟨M, b, false⟩)
        have b4 : Hid (Below w3.heap.size w3 (w3.alloc (.cells #[.int .i64 (M : Int), .int .i64 (b : Int), .bool false] 68))) := (Below.refl _ _).alloc (Nat.le_refl _) _
        have HH : Hid (H + 4 ≤ w3.heap.size) := D3.out.sz
        go_wp2_with (at_builtin; go_loud (refine wpList_append_rec sideKind_ok rfl _ _ 50 68 rfl (H + 4) i0 _ 24 Tryd.underlying50 hi0 hz0 hz1 hz2 rfl v3 _ (L ++ R1) rfl (own_next O3.out b4.out) _ 1 ⟨M, b, false⟩ rfl rc.out (by have := LL.out; unfold maxLen; omega) (by have := LL.out; omega) (Nat.le_trans HH.out b4.out.size) ?_); intro v7 w7 ho7 hg7; obtain ⟨a7, c7, rfl⟩ := own_is ho7; have PT := keep (D3.out.put b4.out CR.out ho7 hg7); have q7 := PT.out.2.2.1; have f7 := PT.out.2.2.2; clear ho7 hg7)
        go_ret
        have PT2 := PT.out
        rw [List.length_append] at PT2
        refine ⟨rfl, ?_, Nat.le_trans S3.out PT2.2.1⟩
        rw [← List.append_assoc]
        exact PT2.1
      · have hw := Mt.way_right (E := E) hee h2 hi
        have hin := Mt.way_in (E := E) (i := i) HE1.out (b - a - Mt.cut (b - a)) (a + Mt.cut (b - a)) b (by omega) (by omega) hb
        have hlw := hin.2.2.2
        have hcr := Mt.cut_rest h2
        have RC := keep (fun w1 => IH.out (b - a - Mt.cut (b - a)) (by omega) (a + Mt.cut (b - a)) b (by omega) (by omega) hb hbm L w1 (by rw [hd] at hcr ⊢; omega))
        rw [hw]
        simp only
        have hLl2 : L.length + Mt.lv (b - a) ≤ 1000 := by rw [hd]; exact hLl
        obtain ⟨k, hk⟩ : ∃ k, Mt.cut (b - a) = k := ⟨_, rfl⟩
        rw [hk] at hlt hpo CU hi hlw hcr RC ⊢
        obtain ⟨M, hM⟩ : ∃ M, a + k = M := ⟨_, rfl⟩
        have e2 : (a : Int) + (k : Int) = (M : Int) := by omega
        rw [hM] at hi hlw RC ⊢
        obtain ⟨⟨R1, en⟩, hR⟩ : ∃ R, Mt.way E i M b = R := ⟨_, rfl⟩
        rw [hR] at hlw RC ⊢
        simp only at hlw RC ⊢
        have iM : ¬ (i : Int) < (M : Int) := by omega
        have M0 : (0 : Int) ≤ (M : Int) := by omega
        have M1 : (M : Int) ≤ 1099511627776 := by omega
        have ML : Hid (M < b ∧ b ≤ 1099511627776) := ⟨by omega, hbm⟩
        have LL : Hid ((L ++ R1).length + 1 ≤ 1000) := by show _ ≤ _; rw [List.length_append]; omega
        clear hw hin hlw hR hk hM hLl hLl2 hcr hee hlt hpo hv hd IH
        go_enter Tryd.func54, Tryd.ntmps54
        go_wp2_with fail
        rw [HF.out, Oper.upon_enter]
        refine EC.out.mono ?_
        rintro e w1 ⟨rfl, rfl⟩
        go_wp2_with fail
        refine CU.out.mono ?_
        rintro e w2 ⟨rfl, hb2⟩
        have D2 := keep (HD.out.below hb2)
        have S2 := keep hb2.size
        have ci2 := D2.out.ci
        have cd2 := D2.out.cd
        unfold downV at cd2
        clear hb2 CU ci ce cd EC
        go_wp2_with fail
        refine (RC.out w2 D2.out).mono ?_
        rintro e w3 ⟨rfl, hD3, hs3⟩
        have D3 := keep hD3
        have S3 := keep (Nat.le_trans S2.out hs3)
        obtain ⟨v3, r3, o3⟩ := hD3.row
        have cr : w3.cell? ⟨H + 2, 0, none⟩ = some v3 := cell_of_row _ _ _ _ _ _ r3
        have CR := keep cr
        have O3 := keep o3
        clear r3 o3 hD3 hs3 RC ci2 cd2
        have rc := keep (rec_cells (k := sideKind) w3 68 ⟨a, M, true⟩)
        have b4 : Hid (Below w3.heap.size w3 (w3.alloc (.cells #[.int .i64 (a : Int), .int .i64 (M : Int), .bool true] 68))) := (Below.refl _ _).alloc (Nat.le_refl _) _
        have HH : Hid (H + 4 ≤ w3.heap.size) := D3.out.sz
        go_wp2_with (at_builtin; go_loud (refine wpList_append_rec sideKind_ok rfl _ _ 50 68 rfl (H + 4) i0 _ 24 Tryd.underlying50 hi0 hz0 hz1 hz2 rfl v3 _ (L ++ R1) rfl (own_next O3.out b4.out) _ 1 ⟨a, M, true⟩ rfl rc.out (by have := LL.out; unfold maxLen; omega) (by have := LL.out; omega) (Nat.le_trans HH.out b4.out.size) ?_); intro v7 w7 ho7 hg7; obtain ⟨a7, c7, rfl⟩ := own_is ho7; have PT := keep (D3.out.put b4.out CR.out ho7 hg7); have q7 := PT.out.2.2.1; have f7 := PT.out.2.2.2; clear ho7 hg7)
        go_ret
        have PT2 := PT.out
        rw [List.length_append] at PT2
        refine ⟨rfl, ?_, Nat.le_trans S3.out PT2.2.1⟩
        rw [← List.append_assoc]
        exact PT2.1
end Go.Proofs.YtdgfbbaddoghaaaDoor
namespace Go.Proofs.YtdgfbbaddoghaaaDoor
open Go.RowKit

set_option maxHeartbeats 4000000 in
set_option maxRecDepth 100000 in
theorem sides_any (F : Nat) (lb : Array Value) (E : Nat → Nat → Bool) (i n : Nat) (w : World) (hi : i < n) (hn : n ≤ 1099511627776) (hF : ∀ (args : Array Value) (w : World), (callFunc F args).run Tryd.prog w = .ok (.enter F args) w) (hE1 : ∀ a, a ≤ i → i < a + 1 → E a (a + 1) = true)
    (hEc : ∀ (a b : Nat) (w' : World), a < b → b ≤ 1099511627776 → Below w.heap.size w w' → Calls Tryd.prog F (#[.int .i64 (a : Int), .int .i64 (b : Int)] ++ lb) w' fun e w'' => e = .returned (.bool (E a b)) ∧ w'' = w') :
    Calls Tryd.prog 40 #[.int .i64 (i : Int), .int .i64 (n : Int), .func (.func F) #[] lb] w fun e w' =>
      ∃ v, e = .returned (.tuple #[v, .int .i64 ((Mt.way E i 0 n).2 : Int)]) ∧ w'.ownsRow w.heap.size 68 3 v (Mt.way E i 0 n).1.length (rv sideKind (Mt.way E i 0 n).1) ∧ Below w.heap.size w w' := by
  have hlv : Mt.lv n ≤ 40 := Mt.lv_le (by show n ≤ 2 ^ 40; exact hn)
  have DA := keep (fun W => down_any w.heap.size F lb E i w hF hE1 hEc n 0 n (by omega) (Nat.zero_le _) hi hn [] W (by simp; omega))
  clear hF hE1 hEc hlv
  obtain ⟨⟨R, en⟩, hR⟩ : ∃ R, Mt.way E i 0 n = R := ⟨_, rfl⟩
  rw [hR] at DA ⊢
  simp only [List.nil_append] at DA ⊢
  clear hR
  obtain ⟨W1, hW1⟩ : ∃ Wn, w.alloc (.cells #[.int .i64 (i : Int)] 3) = Wn := ⟨_, rfl⟩
  have b1 : Below w.heap.size w W1 := by rw [← hW1]; exact (Below.refl _ _).alloc (Nat.le_refl _) _
  have s1 : W1.heap.size = w.heap.size + 1 := by rw [← hW1, alloc_size]
  have g1 : W1.heap[w.heap.size]? = some (.cells #[.int .i64 (i : Int)] 3) := by rw [← hW1]; exact heap_alloc_new w _
  obtain ⟨W2, hW2⟩ : ∃ Wn, W1.alloc (.cells #[.func (.func F) #[] lb] 56) = Wn := ⟨_, rfl⟩
  have b2 : Below W1.heap.size W1 W2 := by rw [← hW2]; exact (Below.refl _ _).alloc (Nat.le_refl _) _
  have s2 : W2.heap.size = w.heap.size + 1 + 1 := by rw [← hW2, alloc_size, s1]
  have g2 : W2.heap[w.heap.size + 1]? = some (.cells #[.func (.func F) #[] lb] 56) := by rw [← hW2, ← s1]; exact heap_alloc_new W1 _
  obtain ⟨W3, hW3⟩ : ∃ Wn, W2.alloc (.cells #[.slice none 0 0] 50) = Wn := ⟨_, rfl⟩
  have b3 : Below W2.heap.size W2 W3 := by rw [← hW3]; exact (Below.refl _ _).alloc (Nat.le_refl _) _
  have s3 : W3.heap.size = w.heap.size + 1 + 1 + 1 := by rw [← hW3, alloc_size, s2]
  have g3 : W3.heap[w.heap.size + 1 + 1]? = some (.cells #[.slice none 0 0] 50) := by rw [← hW3, ← s2]; exact heap_alloc_new W2 _
  obtain ⟨W4, hW4⟩ : ∃ Wn, W3.alloc (.cells #[.nilFunc] 85) = Wn := ⟨_, rfl⟩
  have b4 : Below W3.heap.size W3 W4 := by rw [← hW4]; exact (Below.refl _ _).alloc (Nat.le_refl _) _
  have s4 : W4.heap.size = w.heap.size + 4 := by rw [← hW4, alloc_size, s3]
  have g4 : W4.heap[w.heap.size + 1 + 1 + 1]? = some (.cells #[.nilFunc] 85) := by rw [← hW4, ← s3]; exact heap_alloc_new W3 _
  have q4 : W4.cell? ⟨w.heap.size + 1 + 1 + 1, 0, none⟩ = some .nilFunc := cell_of_row _ _ _ _ _ _ g4
  have f4 : W4.frozen? ⟨w.heap.size + 1 + 1 + 1, 0, none⟩ = false := by simp [World.frozen?, g4]
  have B3 : Below w.heap.size w W3 := b1.trans ((b2.trans (b3.mono b2.size)).mono b1.size)
  have B4 : Below w.heap.size w W4 := B3.trans (b4.mono B3.size)
  have k1 : W4.heap[w.heap.size]? = some (.cells #[.int .i64 (i : Int)] 3) := ((b4.block _ (by omega)).trans ((b3.block _ (by omega)).trans (b2.block _ (by omega)))).trans g1
  have k2 : W4.heap[w.heap.size + 1]? = some (.cells #[.func (.func F) #[] lb] 56) := ((b4.block _ (by omega)).trans (b3.block _ (by omega))).trans g2
  have k3 : W4.heap[w.heap.size + 2]? = some (.cells #[.slice none 0 0] 50) := (b4.block _ (by omega)).trans g3
  have D5 : Hid (Dn w.heap.size (.func (.func F) #[] lb) i w (W4.setCell ⟨w.heap.size + 1 + 1 + 1, 0, none⟩ (downV w.heap.size)) []) := by
    have hs : (W4.setCell ⟨w.heap.size + 1 + 1 + 1, 0, none⟩ (downV w.heap.size)).heap.size = W4.heap.size := by simp only [World.setCell, Array.size_modify]
    have ho : ∀ g, g ≠ w.heap.size + 1 + 1 + 1 → (W4.setCell ⟨w.heap.size + 1 + 1 + 1, 0, none⟩ (downV w.heap.size)).heap[g]? = W4.heap[g]? := fun g hg => Below.heap_setCell W4 ⟨w.heap.size + 1 + 1 + 1, 0, none⟩ _ g hg
    refine ⟨by rw [hs, s4]; exact Nat.le_refl _, cell_of_row _ _ _ _ _ _ ((ho _ (by omega)).trans k1), cell_of_row _ _ _ _ _ _ ((ho _ (by omega)).trans k2), ?_, ⟨.slice none 0 0, (ho _ (by omega)).trans k3, ⟨rfl, .inl ⟨rfl, rfl⟩⟩⟩, B4.setCell (p := ⟨w.heap.size + 1 + 1 + 1, 0, none⟩) (by show w.heap.size ≤ w.heap.size + 1 + 1 + 1; omega) _⟩
    have := put_row g4 0 (downV w.heap.size)
    exact cell_of_row _ _ _ _ _ _ this
  have hst := run_store Tryd.prog W4 ⟨w.heap.size + 1 + 1 + 1, 0, none⟩ (.func (.func 54) #[] #[.pointer (some ⟨w.heap.size + 1, 0, none⟩), .pointer (some ⟨w.heap.size, 0, none⟩), .pointer (some ⟨w.heap.size + 1 + 1 + 1, 0, none⟩), .pointer (some ⟨w.heap.size + 1 + 1, 0, none⟩)]) .plain rfl
  unfold downV at D5
  clear b1 b2 b3 b4 B3 B4 k1 k2 k3 g1 g2 g3 g4 s4 hi hn
  go_enter Tryd.func40, Tryd.ntmps40
  go_wp2_with fail
  refine (DA.out _ D5.out).mono ?_
  rintro e w6 ⟨rfl, hD6, _⟩
  obtain ⟨v6, r6, o6⟩ := hD6.row
  obtain ⟨a6, c6, rfl⟩ := own_is o6
  have q6 : w6.cell? ⟨w.heap.size + 1 + 1, 0, none⟩ = some (.slice a6 R.length c6) := cell_of_row _ _ _ _ _ _ r6
  have O6 := keep (own_low o6 (B' := w.heap.size) (by omega))
  have L6 := keep hD6.low
  clear r6 o6 hD6 DA D5 hst q4 f4 hW1 hW2 hW3 hW4 s1 s2 s3
  go_wp2
  go_ret2
  exact ⟨_, rfl, O6.out, L6.out⟩
theorem enterLeaf (args : Array Value) (w : World) : (callFunc 41 args).run Tryd.prog w = .ok (.enter 41 args) w := by
  simp [callFunc, Tryd.func41]
  rfl
theorem enterEnd (args : Array Value) (w : World) : (callFunc 42 args).run Tryd.prog w = .ok (.enter 42 args) w := by
  simp [callFunc, Tryd.func42]
  rfl
set_option maxHeartbeats 1000000 in
set_option maxRecDepth 100000 in
theorem leafEnd (a b : Nat) (w : World) (hab : a < b) (hb : b ≤ 1099511627776) :
    Calls Tryd.prog 41 (#[.int .i64 (a : Int), .int .i64 (b : Int)] ++ #[]) w fun e w' => e = .returned (.bool (Mt.leafE a b)) ∧ w' = w := by
  have e1 : (b : Int) - (a : Int) = ((b - a : Nat) : Int) := by omega
  have h0 : (0 : Int) ≤ ((b - a : Nat) : Int) := by omega
  have h1 : ((b - a : Nat) : Int) ≤ 1099511627776 := by omega
  have hl : Mt.leafE a b = decide (((b - a : Nat) : Int) = 1) := by
    unfold Mt.leafE
    by_cases h : b - a = 1
    · rw [decide_eq_true h, decide_eq_true (by omega)]
    · rw [decide_eq_false h, decide_eq_false (by omega)]
  rw [hl]
  obtain ⟨x, hx⟩ : ∃ x, b - a = x := ⟨_, rfl⟩
  rw [hx] at e1 h0 h1 ⊢
  clear hl hx
  simp only [Array.append_empty]
  go_enter Tryd.func41, Tryd.ntmps41
  go_wp2
  go_ret
  exact ⟨rfl, rfl⟩
set_option maxHeartbeats 1000000 in
set_option maxRecDepth 100000 in
theorem endEnd (q m a b : Nat) (w : World) (hq : w.cell? ⟨q, 0, none⟩ = some (.int .i64 (m : Int))) :
    Calls Tryd.prog 42 (#[.int .i64 (a : Int), .int .i64 (b : Int)] ++ #[.pointer (some ⟨q, 0, none⟩)]) w fun e w' => e = .returned (.bool (Mt.endE m a b)) ∧ w' = w := by
  have hl : Mt.endE m a b = decide ((b : Int) = (m : Int)) := by
    unfold Mt.endE
    by_cases h : b = m
    · rw [decide_eq_true h, decide_eq_true (by omega)]
    · rw [decide_eq_false h, decide_eq_false (by omega)]
  rw [hl]
  clear hl
  simp only [List.append_toArray, List.cons_append, List.nil_append]
  go_enter Tryd.func42, Tryd.ntmps42
  go_wp2
  go_ret
  exact ⟨rfl, rfl⟩
/-- What toLeaf, toEnd answer. -/
def WayA (w : World) (row : List Mt.Sd) (v : Value) (w' : World) : Prop := w'.ownsRow w.heap.size 68 3 v row.length (rv sideKind row) ∧ Below w.heap.size w w'
set_option maxHeartbeats 1000000 in
set_option maxRecDepth 100000 in
theorem toLeaf_any (i n : Nat) (w : World) (hi : i < n) (hn : n ≤ 1099511627776) :
    Calls Tryd.prog 24 #[.int .i64 (i : Int), .int .i64 (n : Int)] w fun e w' => ∃ v, e = .returned v ∧ WayA w (Mt.way Mt.leafE i 0 n).1 v w' := by
  have SD := keep (sides_any 41 #[] Mt.leafE i n w hi hn enterLeaf (fun a h1 h2 => Mt.leafE_one a h1 h2) (fun a b w' h1 h2 _ => leafEnd a b w' h1 h2))
  clear hi hn
  obtain ⟨⟨R, en⟩, hR⟩ : ∃ R, Mt.way Mt.leafE i 0 n = R := ⟨_, rfl⟩
  rw [hR] at SD ⊢
  simp only at SD ⊢
  clear hR
  go_enter Tryd.func24, Tryd.ntmps24
  go_wp2_with fail
  refine SD.out.mono ?_
  rintro e w1 ⟨v, rfl, ho, hb⟩
  obtain ⟨ao, c, rfl⟩ := own_is ho
  have OB : Hid (WayA w R (.slice ao R.length c) w1) := ⟨ho, hb⟩
  clear ho hb SD
  go_wp2
  go_ret
  exact ⟨_, rfl, OB.out⟩
set_option maxHeartbeats 1000000 in
set_option maxRecDepth 100000 in
theorem toEnd_any (m n : Nat) (w : World) (h1 : 1 ≤ m) (hm : m ≤ n) (hn : n ≤ 1099511627776) :
    Calls Tryd.prog 25 #[.int .i64 (m : Int), .int .i64 (n : Int)] w fun e w' => ∃ v, e = .returned (.tuple #[v, .int .i64 ((Mt.way (Mt.endE m) (m - 1) 0 n).2 : Int)]) ∧ WayA w (Mt.way (Mt.endE m) (m - 1) 0 n).1 v w' := by
  obtain ⟨W1, hW1⟩ : ∃ Wn, w.alloc (.cells #[.int .i64 (m : Int)] 3) = Wn := ⟨_, rfl⟩
  have b1 : Hid (Below w.heap.size w W1) := by rw [← hW1]; exact (Below.refl _ _).alloc (Nat.le_refl _) _
  have q1 : W1.cell? ⟨w.heap.size, 0, none⟩ = some (.int .i64 (m : Int)) := by rw [← hW1]; exact cell_of_row _ _ _ _ _ _ (heap_alloc_new w _)
  have SD := keep (sides_any 42 #[.pointer (some ⟨w.heap.size, 0, none⟩)] (Mt.endE m) (m - 1) n W1 (by omega) hn enterEnd (fun a h2 h3 => Mt.endE_one h1 a h2 h3) (fun a b w' _ _ hb => endEnd w.heap.size m a b w' (below_cell hb q1)))
  have e1 : (m : Int) - 1 = ((m - 1 : Nat) : Int) := by omega
  have h0 : (0 : Int) ≤ ((m - 1 : Nat) : Int) := by omega
  have h2 : ((m - 1 : Nat) : Int) ≤ 1099511627776 := by omega
  obtain ⟨⟨R, en⟩, hR⟩ : ∃ R, Mt.way (Mt.endE m) (m - 1) 0 n = R := ⟨_, rfl⟩
  rw [hR] at SD ⊢
  obtain ⟨x, hx⟩ : ∃ x, m - 1 = x := ⟨_, rfl⟩
  rw [hx] at e1 h0 h2 SD
  simp only at SD ⊢
  clear hR h1 hm hn hx
  go_enter Tryd.func25, Tryd.ntmps25
  go_wp2_with fail
  refine SD.out.mono ?_
  rintro e w1 ⟨v, rfl, ho, hb⟩
  obtain ⟨ao, c, rfl⟩ := own_is ho
  have OB : Hid (WayA w R (.slice ao R.length c) w1) := ⟨own_low ho b1.out.size, b1.out.trans (hb.mono b1.out.size)⟩
  clear ho hb SD hW1 q1
  go_wp2
  go_ret2
  exact ⟨_, rfl, OB.out⟩
end Go.Proofs.YtdgfbbaddoghaaaDoor
namespace Go.Proofs.YtdgfbbaddoghaaaDoor
open Go.RowKit

theorem side_cells {w : World} {b off n c : Nat} {rs : List Mt.Sd} (h : RSrc sideKind w (some ⟨b, off, none⟩) n c rs) {i : Nat} {s : Mt.Sd} (hs : rs[i]? = some s) :
    w.cell? ⟨b, off + i * 3, none⟩ = some (.int .i64 (s.a : Int)) ∧ w.cell? ⟨b, off + i * 3 + 1, none⟩ = some (.int .i64 (s.b : Int)) ∧ w.cell? ⟨b, off + i * 3 + 2, none⟩ = some (.bool s.ah) := by
  have one : ∀ (j : Nat) (u : Value), (sideKind.vals s)[j]? = some u → w.cell? ⟨b, off + i * 3 + j, none⟩ = some u := fun j u hu => by
    have hj : j < 3 := by have := (List.getElem?_eq_some_iff.1 hu).1; simpa [sideKind] using this
    have h1 := h.cells _ rfl (i * 3 + j) u ((rv_at sideKind_ok j hs hj).trans hu)
    rw [Addr.add_mid] at h1
    rw [Nat.add_assoc]
    exact h1
  exact ⟨one 0 _ rfl, one 1 _ rfl, one 2 _ rfl⟩
/-- The roots of what stands beside a way. -/
def rootsL (es : List (List UInt8)) (rs : List Mt.Sd) : List (List UInt8) := rs.map fun s => rootL (Mt.piece es s.a s.b)
set_option maxHeartbeats 4000000 in
set_option maxRecDepth 100000 in
theorem roots_any (wB : World) (C : List (List UInt8)) (v : Value) (ao : Option Addr) (n c : Nat) (es : List (List UInt8)) (rp : Option Addr) (rn rc : Nat) (rs : List Mt.Sd) (w : World) (hL : Ld wB) (hes : RSrc strKind wB ao n c es) (hsh : ∀ e ∈ es, e.length ≤ 1099511627776) (hn : n ≤ 1099511627776) (hrs : RSrc sideKind wB rp rn rc rs) (hin : ∀ s ∈ rs, s.a < s.b ∧ s.b ≤ n)
    (hv : w.ownsRow wB.heap.size 9 1 v C.length (rv strKind C)) (hb : Below wB.heap.size wB w) (hrn : C.length + rn ≤ 1000) :
    Calls Tryd.prog 23 #[v, .slice ao n c, .slice rp rn rc] w fun e w' => ∃ v', e = .returned v' ∧ w'.ownsRow wB.heap.size 9 1 v' (C ++ rootsL es rs).length (rv strKind (C ++ rootsL es rs)) ∧ Below wB.heap.size wB w' := by
  obtain ⟨i0, hi0, hz0, hz1, hz2⟩ := info_partsS infoS
  have HLd := keep hL
  have HES := keep hes
  have HSH := keep hsh
  have HRS := keep hrs
  have HRN := keep hrs.len
  have HIN := keep hin
  have hcap := hes.cap
  have HEN := keep hes.len
  obtain ⟨vp0, vc0, hv0⟩ := own_is hv
  subst hv0
  have OV := keep hv
  have BB := keep hb
  clear hL hes hsh hrs hin hv hb
  go_enter Tryd.func23, Tryd.ntmps23
  go_wp2
  go_loopw [0, 11] (fun v i wr => ∃ k : Nat, k ≤ rn ∧ i = .int .i64 (k : Int) ∧ Hid (wr.ownsRow wB.heap.size 9 1 v (C ++ rootsL es (rs.take k)).length (rv strKind (C ++ rootsL es (rs.take k))) ∧ Below wB.heap.size wB wr)) (fun _ i _ => rn - (intOf i).toNat)
  case atStart => exact ⟨0, Nat.zero_le _, rfl, by rw [List.take_zero]; simpa [rootsL] using OV.out, BB.out⟩
  case round =>
    obtain ⟨k, hk, rfl, hI⟩ := hrel
    obtain ⟨vp, vc, hv⟩ := own_is hI.out.1
    subst hv
    have O1 := keep hI.out.1
    have B1 := keep hI.out.2
    clear hI
    by_cases hkn : k < rn
    · obtain ⟨b, off, rfl, _, _⟩ := HRS.out.form sideKind_ok (by omega)
      obtain ⟨s, hsk⟩ : ∃ s, rs[k]? = some s := ⟨rs[k]'(by rw [HRN.out]; exact hkn), List.getElem?_eq_getElem _⟩
      obtain ⟨c0, c1, c2⟩ := side_cells HRS.out hsk
      have d0 := below_cell B1.out c0
      have d1 := below_cell B1.out c1
      have d2 := below_cell B1.out c2
      have hsi := HIN.out s (List.mem_of_getElem? hsk)
      have NXT : Hid (rootsL es (rs.take (k + 1)) = rootsL es (rs.take k) ++ [rootL (Mt.piece es s.a s.b)]) := by show _ = _; unfold rootsL; rw [List.take_add_one, hsk, List.map_append]; rfl
      obtain ⟨sa, sb, sah⟩ := s
      simp only at d0 d1 d2 hsi NXT
      obtain ⟨b1, off1, rfl, _, _⟩ := strs_at HES.out (by omega)
      have k1 : (k : Int) < (rn : Int) := by omega
      have k0 : (0 : Int) ≤ (k : Int) := by omega
      have a1 : (sa : Int) ≤ (sb : Int) := by omega
      have a2 : (sb : Int) ≤ (c : Int) := by omega
      have a3 : ¬ c = sa := by omega
      have PL : Hid ((Mt.piece es sa sb).length = sb - sa) := Mt.piece_len (by rw [HEN.out]; exact hsi.2)
      have BW : Hid (Below wB.heap.size wB (wr.alloc (.cells #[.int .i64 (sa : Int), .int .i64 (sb : Int), .bool sah] 68))) := B1.out.alloc B1.out.size _
      have bw : Hid (Below wr.heap.size wr (wr.alloc (.cells #[.int .i64 (sa : Int), .int .i64 (sb : Int), .bool sah] 68))) := (Below.refl _ _).alloc (Nat.le_refl _) _
      have RT := keep (root_any (sb - sa) (Mt.piece es sa sb) PL.out (some ⟨b1, off1 + sa, none⟩) (c - sa) _ (HLd.out.below BW.out) (strs_tail ((HES.out.below strKind_ok BW.out).head strKind_ok sb hsi.2) sa (by omega)) (fun e he => HSH.out e (List.mem_of_mem_take (List.mem_of_mem_drop he))) (by omega))
      obtain ⟨Y, hY⟩ : ∃ Y, rootL (Mt.piece es sa sb) = Y := ⟨_, rfl⟩
      rw [hY] at RT NXT
      obtain ⟨D, hD⟩ : ∃ D, C ++ rootsL es (rs.take k) = D := ⟨_, rfl⟩
      have hDl : D.length ≤ 999 := by rw [← hD, List.length_append]; unfold rootsL; rw [List.length_map, List.length_take, HRN.out]; omega
      have hND : Hid (C ++ rootsL es (rs.take (k + 1)) = D ++ [Y]) := by show _ = _; rw [NXT.out, ← List.append_assoc, hD]
      rw [hD] at O1 ⊢
      clear c0 c1 c2 hsk hY hD hsi NXT
      go_wp2_with fail
      refine RT.out.mono ?_
      rintro e w2 ⟨rfl, hb2⟩
      have b2 := keep (BW.out.trans (hb2.mono BW.out.size))
      have O2 := keep (own_next (own_next O1.out bw.out) hb2)
      clear hb2 RT d0 d1 d2
      have rc2 := keep (rec_cells (k := strKind) w2 9 Y)
      have b4 := keep (b2.out.alloc b2.out.size (.cells #[.string ⟨Y.toArray⟩] 9))
      have O4 : Hid ((w2.alloc (.cells #[.string ⟨Y.toArray⟩] 9)).ownsRow wB.heap.size 9 1 (.slice vp D.length vc) D.length (rv strKind D)) := own_next O2.out ((Below.refl _ _).alloc (Nat.le_refl _) _)
      go_wp2_with (at_builtin; go_loud (refine wpList_append_rec strKind_ok rfl _ _ 22 9 rfl wB.heap.size i0 _ 16 Tryd.underlying22 hi0 hz0 hz1 hz2 rfl (.slice vp D.length vc) D.length D rfl O4.out _ 1 Y rfl rc2.out (by unfold maxLen; omega) (by omega) b4.out.size ?_); intro v7 w7 ho7 hg7; have O7 := keep ho7; have b7 := keep (b4.out.grown hg7 b4.out.size (fun j hj => (O4.out.lt j hj).1)); clear ho7 hg7)
      go_roundw
      case rel => exact ⟨k + 1, by omega, by go_num, by rw [hND.out, List.length_append]; exact O7.out, b7.out⟩
      case measure => simp [intOf]; omega
    · obtain rfl : k = rn := by omega
      have hall : rs.take k = rs := List.take_of_length_le (by rw [HRN.out]; exact Nat.le_refl _)
      rw [hall] at O1 ⊢
      obtain ⟨D, hD⟩ : ∃ D, C ++ rootsL es rs = D := ⟨_, rfl⟩
      rw [hD] at O1 ⊢
      have HDD := keep hD
      clear hall hD
      go_wp2
      go_ret
      exact ⟨_, rfl, by rw [HDD.out]; exact O1.out, B1.out⟩
end Go.Proofs.YtdgfbbaddoghaaaDoor
namespace Go.Proofs.YtdgfbbaddoghaaaDoor
open Go.RowKit

theorem path_roots {es : List (List UInt8)} {n i : Nat} (hes : es.length = n) (hi : i < n) : rootsL es (Mt.way Mt.leafE i 0 n).1 = pathL es i := by
  have h := Mt.way_leaf nodeL nilL es i n 0 n (by omega) (Nat.zero_le _) hi (by omega)
  have hp : Mt.piece es 0 n = es := by rw [← hes]; exact Mt.piece_all es
  rw [hp, Nat.sub_zero] at h
  exact h
theorem proof_roots {es : List (List UInt8)} {n m : Nat} (hes : es.length = n) (h1 : 1 ≤ m) (hm : m ≤ n) :
    proofL es m = (if (Mt.way (Mt.endE m) (m - 1) 0 n).2 = 0 then [] else [rootL (Mt.piece es (Mt.way (Mt.endE m) (m - 1) 0 n).2 m)]) ++ rootsL es (Mt.way (Mt.endE m) (m - 1) 0 n).1 := by
  have h := Mt.way_sub nodeL nilL es m h1 n 0 n (by omega) (by omega) hm (by omega) true
  have hp : Mt.piece es 0 n = es := by rw [← hes]; exact Mt.piece_all es
  rw [hp, Nat.sub_zero] at h
  simp only [Bool.true_and, decide_eq_true_eq] at h
  exact h
theorem WayA.src {w w' : World} {row : List Mt.Sd} {v : Value} (h : WayA w row v w') : ∃ rp rc, v = .slice rp row.length rc ∧ RSrc sideKind w' rp row.length rc row := by
  obtain ⟨rp, rc, e, hr, _⟩ := RSrc.own sideKind_ok h.1 (fun _ _ => trivial)
  exact ⟨rp, rc, e, hr⟩
set_option maxHeartbeats 2000000 in
set_option maxRecDepth 100000 in
theorem path_bad (n : Nat) (i : Int) (ao : Option Addr) (c : Nat) (w : World) (hi : i < 0 ∨ (n : Int) ≤ i) :
    Calls Tryd.prog 10 #[.slice ao n c, .int .i64 i] w fun e w' => e = .returned (.tuple #[.slice none 0 0, .int .i64 8]) ∧ Below w.heap.size w w' := by
  go_enter Tryd.func10, Tryd.ntmps10
  by_cases h : i < 0
  · go_wp2
    go_ret2
    exact ⟨rfl, Below.refl _ _⟩
  · have h1 : (n : Int) ≤ i := by omega
    go_wp2
    go_ret2
    exact ⟨rfl, Below.refl _ _⟩
set_option maxHeartbeats 2000000 in
set_option maxRecDepth 100000 in
theorem proof_bad (n : Nat) (m : Int) (ao : Option Addr) (c : Nat) (w : World) (hm : m < 1 ∨ (n : Int) < m) :
    Calls Tryd.prog 11 #[.slice ao n c, .int .i64 m] w fun e w' => e = .returned (.tuple #[.slice none 0 0, .int .i64 8]) ∧ Below w.heap.size w w' := by
  go_enter Tryd.func11, Tryd.ntmps11
  by_cases h : m < 1
  · go_wp2
    go_ret2
    exact ⟨rfl, Below.refl _ _⟩
  · have h1 : (n : Int) < m := by omega
    go_wp2
    go_ret2
    exact ⟨rfl, Below.refl _ _⟩
set_option maxHeartbeats 2000000 in
set_option maxRecDepth 100000 in
theorem path_any (n : Nat) (es : List (List UInt8)) (hes : es.length = n) (i : Nat) (hi : i < n) (ao : Option Addr) (c : Nat) (w : World) (hL : Ld w) (hs : RSrc strKind w ao n c es) (hl : ∀ e ∈ es, e.length ≤ 1099511627776) (hn : n ≤ 1099511627776) :
    Calls Tryd.prog 10 #[.slice ao n c, .int .i64 (i : Int)] w (RowA w (pathL es i)) := by
  have HLd := keep hL
  have HS := keep hs
  have HL := keep hl
  have TL := keep (toLeaf_any i n w hi hn)
  have WI := keep (Mt.way_in (E := Mt.leafE) (i := i) (fun a h1 h2 => Mt.leafE_one a h1 h2) n 0 n (by omega) (Nat.zero_le _) hi)
  rw [← path_roots hes hi]
  obtain ⟨⟨R, en⟩, hR⟩ : ∃ R, Mt.way Mt.leafE i 0 n = R := ⟨_, rfl⟩
  rw [hR] at TL WI ⊢
  simp only at TL WI ⊢
  have hRl : R.length ≤ 40 := Nat.le_trans WI.out.2.2.2 (Mt.lv_le (by show n ≤ 2 ^ 40; exact hn))
  have i0 : ¬ (i : Int) < 0 := by omega
  have i1 : ¬ (n : Int) ≤ (i : Int) := by omega
  have HNN := keep hn
  clear hR hL hs hl hi hes hn
  go_enter Tryd.func10, Tryd.ntmps10
  go_wp2_with fail
  refine TL.out.mono ?_
  rintro e w1 ⟨v, rfl, hA⟩
  obtain ⟨rp, rc, rfl, hrs⟩ := hA.src
  have B1 := keep hA.2
  have RT := keep (roots_any w1 [] (.slice none 0 0) ao n c es rp R.length rc R w1 (HLd.out.below B1.out) (HS.out.below strKind_ok B1.out) HL.out HNN.out hrs (fun s h => ⟨(WI.out.1 s h).2.1, (WI.out.1 s h).2.2⟩) (World.ownsRow_nil _ _ _ _) (Below.refl _ _) (by simp; omega))
  rw [List.nil_append] at RT
  clear hA hrs TL
  go_wp2_with fail
  refine RT.out.mono ?_
  rintro e w2 ⟨v2, rfl, ho2, hb2⟩
  obtain ⟨a2, c2, rfl⟩ := own_is ho2
  have O2 := keep (own_low ho2 B1.out.size)
  have B2 := keep (B1.out.trans (hb2.mono B1.out.size))
  clear ho2 hb2 RT
  go_wp2
  go_ret2
  exact ⟨_, rfl, O2.out, B2.out⟩
set_option maxHeartbeats 2000000 in
set_option maxRecDepth 100000 in
theorem proof_any (n : Nat) (es : List (List UInt8)) (hes : es.length = n) (m : Nat) (hm1 : 1 ≤ m) (hmn : m ≤ n) (ao : Option Addr) (c : Nat) (w : World) (hL : Ld w) (hs : RSrc strKind w ao n c es) (hl : ∀ e ∈ es, e.length ≤ 1099511627776) (hn : n ≤ 1099511627776) :
    Calls Tryd.prog 11 #[.slice ao n c, .int .i64 (m : Int)] w (RowA w (proofL es m)) := by
  obtain ⟨i0, hi0, hz0, hz1, hz2⟩ := info_partsS infoS
  have HLd := keep hL
  have HS := keep hs
  have HL := keep hl
  have hcap := hs.cap
  have TE := keep (toEnd_any m n w hm1 hmn hn)
  have WI := keep (Mt.way_in (E := Mt.endE m) (i := m - 1) (fun a h1 h2 => Mt.endE_one hm1 a h1 h2) n 0 n (by omega) (Nat.zero_le _) (by omega))
  rw [proof_roots hes hm1 hmn]
  obtain ⟨⟨R, en⟩, hR⟩ : ∃ R, Mt.way (Mt.endE m) (m - 1) 0 n = R := ⟨_, rfl⟩
  rw [hR] at TE WI ⊢
  simp only at TE WI ⊢
  have hRl : R.length ≤ 40 := Nat.le_trans WI.out.2.2.2 (Mt.lv_le (by show n ≤ 2 ^ 40; exact hn))
  have hen : en ≤ m - 1 := WI.out.2.2.1
  have m0 : ¬ (m : Int) < 1 := by omega
  have m1 : ¬ (n : Int) < (m : Int) := by omega
  have HNN := keep hn
  have PL : Hid ((Mt.piece es en m).length = m - en) := Mt.piece_len (by omega)
  clear hR hL hs hl hes
  by_cases he : en = 0
  · rw [if_pos he, List.nil_append]
    subst he
    clear hen hm1 hmn hn PL
    go_enter Tryd.func11, Tryd.ntmps11
    go_wp2_with fail
    refine TE.out.mono ?_
    rintro e w1 ⟨v, rfl, hA⟩
    obtain ⟨rp, rc, rfl, hrs⟩ := hA.src
    have B1 := keep hA.2
    have RT := keep (roots_any w1 [] (.slice none 0 0) ao n c es rp R.length rc R w1 (HLd.out.below B1.out) (HS.out.below strKind_ok B1.out) HL.out HNN.out hrs (fun s h => ⟨(WI.out.1 s h).2.1, (WI.out.1 s h).2.2⟩) (World.ownsRow_nil _ _ _ _) (Below.refl _ _) (by simp; omega))
    rw [List.nil_append] at RT
    clear hA hrs TE
    go_wp2_with fail
    refine RT.out.mono ?_
    rintro e w2 ⟨v2, rfl, ho2, hb2⟩
    obtain ⟨a2, c2, rfl⟩ := own_is ho2
    have O2 := keep (own_low ho2 B1.out.size)
    have B2 := keep (B1.out.trans (hb2.mono B1.out.size))
    clear ho2 hb2 RT
    go_wp2
    go_ret2
    exact ⟨_, rfl, O2.out, B2.out⟩
  · rw [if_neg he]
    obtain ⟨b1, off1, rfl, _, _⟩ := strs_at HS.out (by omega)
    have e0 : (0 : Int) < (en : Int) := by omega
    have a1 : (en : Int) ≤ (m : Int) := by omega
    have a2 : (m : Int) ≤ (c : Int) := by omega
    have a3 : ¬ c = en := by omega
    have RO : Hid (∀ w1, Below w.heap.size w w1 → Calls Tryd.prog 16 #[.slice (some ⟨b1, off1 + en, none⟩) (m - en) (c - en)] w1 fun e w' => e = .returned (.string ⟨(rootL (Mt.piece es en m)).toArray⟩) ∧ Below w1.heap.size w1 w') := fun w1 hb1 =>
      root_any (m - en) (Mt.piece es en m) PL.out (some ⟨b1, off1 + en, none⟩) (c - en) w1 (HLd.out.below hb1) (strs_tail ((HS.out.below strKind_ok hb1).head strKind_ok m hmn) en (by omega)) (fun e he => HL.out e (List.mem_of_mem_take (List.mem_of_mem_drop he))) (by omega)
    obtain ⟨Y, hY⟩ : ∃ Y, rootL (Mt.piece es en m) = Y := ⟨_, rfl⟩
    rw [hY] at RO ⊢
    clear hY hen hm1 hmn hn PL
    go_enter Tryd.func11, Tryd.ntmps11
    go_wp2_with fail
    refine TE.out.mono ?_
    rintro e w1 ⟨v, rfl, hA⟩
    obtain ⟨rp, rc, rfl, hrs⟩ := hA.src
    have B1 := keep hA.2
    have RS := keep hrs
    clear hA hrs TE
    go_wp2_with fail
    refine (RO.out w1 B1.out).mono ?_
    rintro e w2 ⟨rfl, hb2⟩
    have b2 := keep hb2
    clear hb2 RO
    have rc2 := keep (rec_cells (k := strKind) w2 9 Y)
    have b4 := keep (b2.out.alloc b2.out.size (.cells #[.string ⟨Y.toArray⟩] 9))
    go_wp2_with (first | fail | (at_builtin; go_loud (refine wpList_append_rec strKind_ok rfl _ _ 22 9 rfl w1.heap.size i0 _ 16 Tryd.underlying22 hi0 hz0 hz1 hz2 rfl (.slice none 0 0) 0 [] rfl (World.ownsRow_nil _ _ _ _) _ 1 Y rfl rc2.out (by unfold maxLen; omega) (by omega) b4.out.size ?_); intro v7 w7 ho7 hg7; obtain ⟨a7, c7, rfl⟩ := own_is ho7; have O7 := keep ho7; have b7 := keep (b4.out.grown hg7 b4.out.size (fun j hj => by cases hj)); clear ho7 hg7))
    have RT := keep (roots_any w1 [Y] (.slice a7 1 c7) (some ⟨b1, off1, none⟩) n c es rp R.length rc R w7 (HLd.out.below B1.out) (HS.out.below strKind_ok B1.out) HL.out HNN.out RS.out (fun s h => ⟨(WI.out.1 s h).2.1, (WI.out.1 s h).2.2⟩) O7.out b7.out (by simp; omega))
    refine RT.out.mono ?_
    rintro e w8 ⟨v2, rfl, ho2, hb2⟩
    obtain ⟨a8, c8, rfl⟩ := own_is ho2
    have O2 := keep (own_low ho2 B1.out.size)
    have B2 := keep (B1.out.trans (hb2.mono B1.out.size))
    clear ho2 hb2 RT
    go_wp2
    go_ret2
    exact ⟨_, rfl, O2.out, B2.out⟩
end Go.Proofs.YtdgfbbaddoghaaaDoor
