/- The walks of rows' numBytes, its kind of one number, Fresh. -/
/- The walks of rows' get, getOrZero, put of the number of trees, and Fresh. -/
import Derived.Test.YtogphpejdnhnjaaGreatDoorEcg
import Derived.Test.YtogphpejdnhnjaaGreatDoorJoinEke
import Derived.Test.YtogphpejdnhnjaaGreatDoorJoinT
namespace Go.Proofs.YtogphpejdnhnjaaGreatDoor
open Go.RowKit Go.Maps

set_option maxHeartbeats 1000000 in
set_option maxRecDepth 100000 in
theorem putNum_any (ao : Option Addr) (m c : Nat) (l : List UInt8) (n : Int) (w : World) (hm : m + 9 ≤ 140737488355328) (hs : Src w ao m c l) :
    Calls Tryz.prog 28 #[.slice ao m c, .int .i64 n] w fun e w' => ∃ v, e = .returned v ∧ New w w' v (m + (num (cl n)).length) (l ++ num (cl n)) := by
  have h9 := num9 n
  have HS := keep hs
  clear hs
  go_enter Tryz.func28, Tryz.ntmps28
  go_wp2_with fail
  refine (groups_any n _).mono ?_
  rintro e w1 ⟨v1, rfl, hn1⟩
  have HN := keep hn1
  obtain ⟨a1, c1, rfl, hs1, _⟩ := hn1.src
  have HS1 := keep hs1
  clear hs1 hn1
  go_wp2_with fail
  refine (layB_any ao m c l a1 _ c1 _ w1 (by omega) (HS.out.below HN.out.2) HS1.out).mono ?_
  rintro e w2 ⟨v2, rfl, hn2⟩
  have HN2 := keep (hn2.after HN.out.2)
  clear hn2
  go_wp2
  go_ret
  exact ⟨_, rfl, HN2.out⟩

set_option maxHeartbeats 1000000 in
set_option maxRecDepth 100000 in
/-- Numbers as records of one cell. -/
def numK : Kind Int where
  size := 1
  vals x := [.int .i64 x]
  held _ _ := True
theorem numK_ok : numK.Ok :=
  ⟨by decide, fun _ => rfl, fun e u hu => by
    simp only [numK, List.mem_cons, List.not_mem_nil, or_false] at hu
    rw [hu]; rfl, fun h _ => h⟩
theorem rv_num (zs : List Int) : rv numK zs = zs.map (Value.int .i64) := by
  induction zs with
  | nil => rfl
  | cons a l ih => show [Value.int .i64 a] ++ rv numK l = _; rw [ih]; rfl
theorem num_cell {w : World} {b off n c : Nat} {zs : List Int} (h : RSrc numK w (some ⟨b, off, none⟩) n c zs) {k : Nat} (hk : k < n) : w.cell? ⟨b, off + k, none⟩ = some (.int .i64 (zs.getD k 0)) := by
  have hl := h.len
  have e : zs[k]? = some (zs.getD k 0) := by rw [List.getD_eq_getElem?_getD, List.getElem?_eq_getElem (by omega)]; rfl
  have := h.cells _ rfl (k * numK.size + 0) (.int .i64 (zs.getD k 0)) ((rv_at numK_ok 0 e (by decide)).trans rfl)
  rw [Addr.add_mid] at this
  simpa [numK] using this
theorem nsrc_new (w : World) (zs : List Int) (t : TypeId) : RSrc numK (w.alloc (.cells (zs.map (Value.int .i64)).toArray t)) (some ⟨w.heap.size, 0, none⟩) zs.length zs.length zs :=
  ⟨rfl, Nat.le_refl _, fun e => (by cases e), fun ad e j u hu => by
    cases e
    rw [rv_num] at hu
    rw [Addr.add_mid, Nat.zero_add, cell_of_row _ _ _ _ _ _ (heap_alloc_new w _)]
    simpa using hu, fun _ _ => trivial⟩
theorem New.base {w w1 w2 : World} {v : Value} {n : Nat} {l : List UInt8} (hb : Below w.heap.size w w1) (h : New w1 w2 v n l) : New w w2 v n l := ⟨own_base h.1 (fun g hg => Nat.le_trans hb.size (h.1.lt g hg).1), hb.trans (h.2.mono hb.size)⟩
/-- Numbers as bytes. -/
def numsB (zs : List Int) : List UInt8 := zs.flatMap fun z => num (cl z)
theorem numsB_more (zs : List Int) (z : Int) : numsB (zs ++ [z]) = numsB zs ++ num (cl z) := by unfold numsB; rw [List.flatMap_append]; simp
theorem take_moreN {l : List Int} {k : Nat} {m : Int} (h : l[k]? = some m) : l.take (k + 1) = l.take k ++ [m] := by rw [List.take_add_one, h]; rfl
set_option maxHeartbeats 2000000 in
set_option maxRecDepth 100000 in
theorem numBytes_any (ao : Option Addr) (n c : Nat) (zs : List Int) (w : World) (hsrc : RSrc numK w ao n c zs) (hn : n ≤ 5) :
    Calls Tryz.prog 13 #[.slice ao n c] w fun e w' => ∃ v, e = .returned v ∧ New w w' v (numsB zs).length (numsB zs) := by
  have SRC := keep hsrc
  have HN := keep hsrc.len
  have FULL : Hid (zs.take n = zs) := List.take_of_length_le (by rw [hsrc.len]; exact Nat.le_refl _)
  clear hsrc
  go_enter Tryz.func13, Tryz.ntmps13
  go_wp2
  go_loopw [3, 8] (fun vb i wr => ∃ (k : Nat) (a : Option Addr) (L c3 : Nat), k ≤ n ∧ L ≤ 9 * k ∧ vb = .slice a L c3 ∧ i = .int .i64 (k : Int) ∧ Hid (New w wr (.slice a L c3) L (numsB (zs.take k)))) (fun _ i _ => n - (intOf i).toNat)
  case atStart => exact ⟨0, none, 0, 0, Nat.zero_le _, Nat.zero_le _, rfl, rfl, World.ownsRow_nil _ _ _ _, Below.refl _ _⟩
  case round =>
    obtain ⟨k, a, L, c3, hk, hL, rfl, rfl, hI⟩ := hrel
    by_cases hkn : k < n
    · obtain ⟨b, off, rfl, _, _⟩ := SRC.out.form numK_ok (by omega)
      obtain ⟨z, hz⟩ : ∃ z, zs[k]? = some z := ⟨zs[k]'(by rw [HN.out]; exact hkn), List.getElem?_eq_getElem _⟩
      have ck : wr.cell? ⟨b, off + k, none⟩ = some (.int .i64 z) := by
        have := num_cell (SRC.out.below numK_ok hI.out.2) hkn
        rw [List.getD_eq_getElem?_getD, hz] at this
        exact this
      have TM : Hid (numsB (zs.take (k + 1)) = numsB (zs.take k) ++ num (cl z)) := by show _ = _; rw [take_moreN hz, numsB_more]
      obtain ⟨a2, c2, e2, hs2, _⟩ := hI.out.src
      injection e2 with e3 e4 e5
      subst e3
      subst e5
      have PN := keep (putNum_any a L c3 (numsB (zs.take k)) z wr (by omega) hs2)
      have N9 := keep (num9 z)
      clear hz hs2 e4
      have ll : (k : Int) < (n : Int) := by omega
      have l0 : (0 : Int) ≤ (k : Int) := by omega
      go_wp2_with fail
      refine PN.out.mono ?_
      rintro e w2 ⟨v2, rfl, hn2⟩
      have N2 := keep (hn2.base hI.out.2)
      obtain ⟨a4, c4, rfl, _, _⟩ := hn2.src
      obtain ⟨Q, hQ⟩ : ∃ Q, L + (num (cl z)).length = Q := ⟨_, rfl⟩
      have hQ9 : Q ≤ 9 * (k + 1) := by have := N9.out; omega
      rw [hQ] at N2 ⊢
      clear hn2 hQ PN ck
      go_wp2
      go_roundw
      case rel => exact ⟨k + 1, a4, Q, c4, by omega, by omega, rfl, by go_num, by rw [TM.out]; exact N2.out⟩
      case measure => simp [intOf]; omega
    · obtain rfl : k = n := by omega
      have N1 := keep hI.out
      rw [FULL.out] at N1
      have EL := N1.out.len
      have HEL := keep EL
      clear EL hI
      go_wp2
      go_ret
      exact ⟨_, rfl, by rw [HEL.out]; exact N1.out⟩
/-- How many trees there have been, as a kind of rows. -/
def KI : Value := .agg #[.int .i64 0, .func (.func 50) #[] #[], .func (.func 49) #[] #[], .func (.func 51) #[] #[]]
set_option maxHeartbeats 1000000 in
set_option maxRecDepth 100000 in
theorem isnum_yes (n : Int) (w : World) (h0 : 0 ≤ n) (h1 : n ≤ 1099511627776) :
    Calls Tryz.prog 50 #[.int .i64 n] w fun e w' => e = .returned (.bool true) ∧ w' = w := by
  go_enter Tryz.func50, Tryz.ntmps50
  go_wp2
  go_ret
  exact ⟨rfl, rfl⟩
set_option maxHeartbeats 1000000 in
set_option maxRecDepth 100000 in
theorem lay_one (n : Int) (w : World) :
    Calls Tryz.prog 49 #[.int .i64 n] w fun e w' => ∃ v, e = .returned v ∧ New w w' v (num (cl n)).length (num (cl n)) := by
  have b1 := keep ((Below.refl w.heap.size w).alloc (Nat.le_refl _) (.cells #[.int .i64 n] 3))
  have NB := keep (numBytes_any (some ⟨w.heap.size, 0, none⟩) 1 1 [n] _ (nsrc_new w [n] 3) (by omega))
  have e1 : numsB [n] = num (cl n) := by unfold numsB; simp
  rw [e1] at NB
  clear e1
  go_enter Tryz.func49, Tryz.ntmps49
  go_wp2_with fail
  refine NB.out.mono ?_
  rintro e w2 ⟨v, rfl, hn⟩
  have N2 := keep (hn.base b1.out)
  clear hn NB
  go_wp2
  go_ret
  exact ⟨_, rfl, N2.out⟩
set_option maxHeartbeats 2000000 in
set_option maxRecDepth 100000 in
theorem amounts_any (w : World) : Calls Tryz.prog 20 #[] w fun e w' => e = .returned KI ∧ Below w.heap.size w w' := by
  have hst : ∀ (w' : World) (a : Addr) (f : FuncId), (store a (.func (.func f) #[] #[]) .plain).run Tryz.prog w' = stored Tryz.prog w' a (.func (.func f) #[] #[]) .plain := fun w' a f => run_store Tryz.prog w' a _ .plain rfl
  have b1 := keep ((Below.refl w.heap.size w).alloc (Nat.le_refl _) (.cells #[.int .i64 0, .func (.func 50) #[] #[], .func (.func 49) #[] #[], .func (.func 51) #[] #[]] 67))
  unfold KI
  go_enter Tryz.func20, Tryz.ntmps20
  go_wp2
  refine ⟨rfl, _, ?_, rfl, b1.out⟩
  simp [results, Tryz.f20, go_sem, loadCells, loadCellsFrom]
/-- The cells of KI. -/
structure KC (w : World) (g : Nat) : Prop where
  row : w.heap[g]? = some (.cells #[.int .i64 0, .func (.func 50) #[] #[], .func (.func 49) #[] #[], .func (.func 51) #[] #[]] 67 (0, 0))
theorem KC.c {w : World} {g : Nat} (h : KC w g) : w.cell? ⟨g, 0, none⟩ = some (.int .i64 0) ∧ w.cell? ⟨g, 1, none⟩ = some (.func (.func 50) #[] #[]) ∧ w.cell? ⟨g, 2, none⟩ = some (.func (.func 49) #[] #[]) ∧ w.cell? ⟨g, 3, none⟩ = some (.func (.func 51) #[] #[]) := ⟨cell_of_row _ _ _ _ _ _ h.row, cell_of_row _ _ _ _ _ _ h.row, cell_of_row _ _ _ _ _ _ h.row, cell_of_row _ _ _ _ _ _ h.row⟩
theorem KC.below {w w' : World} {g : Nat} (h : KC w g) (hb : Below w.heap.size w w') : KC w' g := ⟨(hb.block _ (Array.getElem?_eq_some_iff.1 h.row).1).trans h.row⟩
theorem KC.new (w : World) : KC (w.alloc (.cells #[.int .i64 0, .func (.func 50) #[] #[], .func (.func 49) #[] #[], .func (.func 51) #[] #[]] 67)) w.heap.size := ⟨heap_alloc_new w _⟩
theorem cl_nat {n : Nat} (h : n ≤ 4611686018427387903) : cl (n : Int) = n := by unfold cl; omega
set_option maxHeartbeats 2000000 in
set_option maxRecDepth 100000 in
theorem ienc_yes (n : Nat) (w : World) (hn : n ≤ 1000) :
    Calls Tryz.prog 53 #[KI, .int .i64 (n : Int)] w fun e w' => ∃ v, e = .returned (.tuple #[v, .int .i64 0]) ∧ New w w' v (num n).length (num n) := by
  obtain ⟨W1, hW1⟩ : ∃ W1, w.alloc (.cells #[.int .i64 0, .func (.func 50) #[] #[], .func (.func 49) #[] #[], .func (.func 51) #[] #[]] 67) = W1 := ⟨_, rfl⟩
  have b1 : Hid (Below w.heap.size w W1) := by rw [← hW1]; exact (Below.refl _ _).alloc (Nat.le_refl _) _
  have k1 : Hid (KC W1 w.heap.size) := by rw [← hW1]; exact KC.new w
  obtain ⟨c0, c1, c2, c3⟩ := k1.out.c
  have LO := keep (lay_one (n : Int) W1)
  rw [cl_nat (by omega)] at LO
  unfold KI
  go_enter Tryz.func53, Tryz.ntmps53
  go_wp2_with fail
  refine (isnum_yes (n : Int) W1 (by omega) (by omega)).mono ?_
  rintro e w1 ⟨rfl, rfl⟩
  go_wp2_with fail
  refine LO.out.mono ?_
  rintro e w2 ⟨v, rfl, hn2⟩
  have N2 := keep (hn2.base b1.out)
  clear hn2 LO hW1
  go_wp2
  go_ret2
  exact ⟨_, rfl, N2.out⟩
set_option maxHeartbeats 2000000 in
set_option maxRecDepth 100000 in
theorem rnum_one (rb : Nat) (p : Option Addr) (c n : Nat) (w : World) (hr : w.heap[rb]? = some (.cells #[.slice p (num n).length c] 215 (0, 0))) (hs : Src w p (num n).length c (num n)) (hn : n ≤ 1000) :
    Calls Tryz.prog 51 #[.pointer (some ⟨rb, 0, none⟩)] w fun e w' => e = .returned (.int .i64 (n : Int)) ∧ Kept (At rb) w w' := by
  have TN := keep (takeNum_any p (num n).length c (num n) w (Nat.le_trans (by have := num9 (n : Int); rw [cl_nat (by omega)] at this; exact this) (by decide)) hs)
  have tp : takeNum (num n) = some (n, []) := by have := takeNum_put (n := n) (r := []) (by omega); rwa [List.append_nil] at this
  rw [tp] at TN
  have c0 : w.cell? ⟨rb, 0, none⟩ = some (.slice p (num n).length c) := cell_of_row _ _ _ _ _ _ hr
  have HR := keep hr
  obtain ⟨L, hL⟩ : ∃ L, (num n).length = L := ⟨_, rfl⟩
  rw [hL] at TN c0 HR
  clear tp hs hr hL
  go_enter Tryz.func51, Tryz.ntmps51
  go_wp2_with fail
  refine TN.out.mono ?_
  rintro e w1 (⟨k, r, v, hk, rfl, hv⟩ | ⟨hk, _⟩)
  · cases hk
    obtain ⟨ap, ac, rfl, _, _⟩ := hv.src
    have B1 := keep hv.2
    have R1 := keep ((hv.2.block rb (Array.getElem?_eq_some_iff.1 HR.out).1).trans HR.out)
    have y0 : w1.cell? ⟨rb, 0, none⟩ = some (.slice p L c) := cell_of_row _ _ _ _ _ _ R1.out
    have f0 : w1.frozen? ⟨rb, 0, none⟩ = false := by simp [World.frozen?, R1.out]
    clear hv TN c0
    go_wp2
    go_ret
    exact ⟨rfl, (Kept.of_below B1.out).at_set _ _⟩
  · cases hk
set_option maxHeartbeats 2000000 in
set_option maxRecDepth 100000 in
theorem idec_yes (p : Option Addr) (c n : Nat) (w : World) (hs : Src w p (num n).length c (num n)) (hn : n ≤ 1000) :
    Calls Tryz.prog 116 #[KI, .slice p (num n).length c] w fun e w' => e = .returned (.tuple #[.int .i64 (n : Int), .int .i64 0]) ∧ Below w.heap.size w w' := by
  obtain ⟨W1, hW1⟩ : ∃ W1, w.alloc (.cells #[.int .i64 0, .func (.func 50) #[] #[], .func (.func 49) #[] #[], .func (.func 51) #[] #[]] 67) = W1 := ⟨_, rfl⟩
  have b1 : Hid (Below w.heap.size w W1) := by rw [← hW1]; exact (Below.refl _ _).alloc (Nat.le_refl _) _
  have k1 : Hid (KC W1 w.heap.size) := by rw [← hW1]; exact KC.new w
  have s1 : Hid (W1.heap.size = w.heap.size + 1) := by rw [← hW1]; simp; trivial
  obtain ⟨c0, c1, c2, c3⟩ := k1.out.c
  obtain ⟨NB, hNB⟩ : ∃ NB, num n = NB := ⟨_, rfl⟩
  have HNB := keep hNB
  have HS := keep hs
  have b2 := keep (b1.out.alloc b1.out.size (.cells #[.slice p (num n).length c] 215))
  have RN := keep (rnum_one W1.heap.size p c n _ (heap_alloc_new W1 (.cells #[.slice p (num n).length c] 215)) (hs.below b2.out) hn)
  rw [hNB] at RN HS b2 ⊢
  clear hs hNB
  unfold KI
  go_enter Tryz.func116, Tryz.ntmps116
  go_wp2_with fail
  refine RN.out.mono ?_
  rintro e w2 ⟨rfl, hk2⟩
  have B2 : Hid (Below w.heap.size w w2) := b2.out.trans (hk2.below b2.out.size (fun g hg => by have e : g = W1.heap.size := hg; rw [e, s1.out]; omega))
  have K2 : Hid (KC w2 w.heap.size) := ⟨(hk2.block w.heap.size (by simp [s1.out]; omega) (fun e => by have e2 : w.heap.size = W1.heap.size := e; rw [s1.out] at e2; omega)).trans ((Below.heap_alloc W1 _ w.heap.size (by rw [s1.out]; omega)).trans k1.out.row)⟩
  obtain ⟨d0, d1, d2, d3⟩ := K2.out.c
  have IE := keep (ienc_yes n w2 hn)
  unfold KI at IE
  clear hk2 RN hW1 c0 c1 c2 c3
  go_wp2_with fail
  refine IE.out.mono ?_
  rintro e w3 ⟨v3, rfl, hn3⟩
  obtain ⟨ap, ac, rfl, hs3, _⟩ := hn3.src
  have B3 := keep (B2.out.trans (hn3.2.mono B2.out.size))
  have S3 := keep hs3
  rw [HNB.out] at S3
  have EQ := keep (equal_any ap NB.length ac NB p NB.length c NB w3 S3.out (HS.out.below B3.out))
  rw [decide_eq_true rfl] at EQ
  rw [HNB.out]
  clear hs3 hn3 IE
  go_wp2_with fail
  refine EQ.out.mono ?_
  rintro e w4 ⟨rfl, rfl⟩
  go_wp2
  go_ret2
  exact ⟨rfl, B3.out⟩
set_option maxHeartbeats 2000000 in
set_option maxRecDepth 100000 in
theorem ikey_any (id : Nat) (b : Addr) (w : World) (hid : id ≤ 64) (hg : ErrIs w b) :
    Calls Tryz.prog 55 #[KI, .int .i64 (id : Int)] w fun e w' => ∃ v, e = .returned v ∧ New w w' v 9 (mk id 0 []) := by
  obtain ⟨W1, hW1⟩ : ∃ W1, w.alloc (.cells #[.int .i64 0, .func (.func 50) #[] #[], .func (.func 49) #[] #[], .func (.func 51) #[] #[]] 67) = W1 := ⟨_, rfl⟩
  have b1 : Hid (Below w.heap.size w W1) := by rw [← hW1]; exact (Below.refl _ _).alloc (Nat.le_refl _) _
  have k1 : Hid (KC W1 w.heap.size) := by rw [← hW1]; exact KC.new w
  obtain ⟨c0, c1, c2, c3⟩ := k1.out.c
  have MK := keep (make_yes id 0 none 0 0 [] b W1 (by omega) (by omega) (by omega) (Src.empty (fun _ => rfl)) (hg.below b1.out))
  unfold KI
  go_enter Tryz.func55, Tryz.ntmps55
  go_wp2_with fail
  refine MK.out.mono ?_
  rintro e w2 ⟨v, rfl, hn2⟩
  have N2 := keep (hn2.base b1.out)
  clear hn2 MK hW1
  go_wp2
  go_ret
  exact ⟨_, rfl, N2.out⟩
end Go.Proofs.YtogphpejdnhnjaaGreatDoor
namespace Go.Proofs.YtogphpejdnhnjaaGreatDoor
open Go.RowKit Go.Maps

/-- The key under which the number of trees stands. -/
def K0 : List UInt8 := mk 0 0 []
theorem k0_len : K0.length = 9 := rfl
/-- What a transaction has written of it: nothing, or that number. -/
def Had (w : World) (l : List Named) (n : Nat) : Prop := (l = [] ∧ n = 0) ∨ ∃ v, l = [(K0, v)] ∧ Chg w v (num n)
theorem Had.few {w : World} {l : List Named} {n : Nat} (h : Had w l n) : l.length < 256 := by
  rcases h with ⟨rfl, _⟩ | ⟨v, rfl, _⟩ <;> simp
theorem Had.chg {w : World} {l : List Named} {n : Nat} (h : Had w l n) : ∀ v, seek l K0 = some v → ∃ val, Chg w v val := by
  rcases h with ⟨rfl, _⟩ | ⟨v, rfl, hc⟩
  · intro v hv; cases hv
  · intro v' hv
    simp only [seek, if_true] at hv
    cases hv
    exact ⟨_, hc⟩
theorem Had.other {w : World} {l : List Named} {n : Nat} (h : Had w l n) {k : List UInt8} (hk : K0 ≠ k) : seek l k = none := by
  rcases h with ⟨rfl, _⟩ | ⟨v, rfl, hc⟩
  · rfl
  · simp only [seek]; rw [if_neg hk]
theorem Had.lay {w w' : World} {l : List Named} {n m : Nat} {v : Value} (h : Had w l n) (hc : Chg w' v (num m)) : Had w' (Go.Proofs.YtogphpejdnhnjaaGreatDoor.lay l K0 v) m := by
  right
  refine ⟨v, ?_, hc⟩
  rcases h with ⟨rfl, _⟩ | ⟨v0, rfl, _⟩
  · rfl
  · simp only [Go.Proofs.YtogphpejdnhnjaaGreatDoor.lay]
    rw [if_neg (by rw [less_irrefl]; simp)]
    simp
theorem Had.kept {w w' : World} {l : List Named} {n m : Nat} (h : Had w l n) (hk : Kept (At m) w w') (hm : ∀ c t f, w.heap[m]? ≠ some (.cells c t f)) : Had w' l n := by
  rcases h with h | ⟨v, rfl, hc⟩
  · exact .inl h
  · exact .inr ⟨v, rfl, hc.kept hk hm⟩
theorem Had.below {w w' : World} {l : List Named} {n : Nat} (h : Had w l n) (hb : Below w.heap.size w w') : Had w' l n := by
  rcases h with h | ⟨v, rfl, hc⟩
  · exact .inl h
  · obtain ⟨kp, kn, kc, vp, vc, rfl, hs⟩ := hc
    exact .inr ⟨_, rfl, kp, kn, kc, vp, vc, rfl, hs.below hb⟩
theorem num_short {n : Nat} (h : n ≤ 1000) : (num n).length ≤ 9 := by have := num9 (n : Int); rw [cl_nat (by omega)] at this; exact this
set_option maxHeartbeats 2000000 in
set_option maxRecDepth 100000 in
theorem iget_none (tb eb wm gm db pm tm sk : Nat) (seq : Int) (l : List Named) (b : Addr) (w : World) (h : TxnAt w tb eb wm gm seq l) (he : EngAt w eb db pm tm sk seq) (hg : ErrIs w b) (hx : seek l K0 = none) :
    Calls Tryz.prog 52 #[KI, .pointer (some ⟨tb, 0, none⟩), .int .i64 0] w fun e w' => e = .returned (.tuple #[.int .i64 0, .int .i64 6]) ∧ Below w.heap.size w w' := by
  obtain ⟨W1, hW1⟩ : ∃ W1, w.alloc (.cells #[.int .i64 0, .func (.func 50) #[] #[], .func (.func 49) #[] #[], .func (.func 51) #[] #[]] 67) = W1 := ⟨_, rfl⟩
  have b1 : Hid (Below w.heap.size w W1) := by rw [← hW1]; exact (Below.refl _ _).alloc (Nat.le_refl _) _
  have k1 : Hid (KC W1 w.heap.size) := by rw [← hW1]; exact KC.new w
  obtain ⟨c0, c1, c2, c3⟩ := k1.out.c
  have IK := keep (ikey_any 0 b W1 (by omega) (hg.below b1.out))
  have T1 := keep (h.below b1.out)
  have E1 := keep (he.below b1.out)
  have HX := keep hx
  clear h he hg hx
  unfold KI at IK ⊢
  go_enter Tryz.func52, Tryz.ntmps52
  go_wp2_with fail
  refine IK.out.mono ?_
  rintro e w2 ⟨v, rfl, hn2⟩
  obtain ⟨ap, ac, rfl, hs2, _⟩ := hn2.src
  have B2 := keep (b1.out.trans (hn2.2.mono b1.out.size))
  have TG := keep (tget_none tb eb wm gm db pm tm sk seq l ap ac K0 w2 (T1.out.below hn2.2) (E1.out.below hn2.2) hs2 (by unfold maxLen; decide) HX.out)
  rw [k0_len] at TG
  clear hn2 hs2 IK hW1
  go_wp2_with fail
  refine TG.out.mono ?_
  rintro e w3 ⟨rfl, hb3⟩
  have B3 := keep (B2.out.trans (hb3.mono B2.out.size))
  clear hb3 TG
  go_wp2
  go_ret2
  exact ⟨rfl, B3.out⟩
set_option maxHeartbeats 2000000 in
set_option maxRecDepth 100000 in
theorem iget_some (tb eb wm gm : Nat) (seq : Int) (l : List Named) (b : Addr) (n : Nat) (v : Value) (w : World) (h : TxnAt w tb eb wm gm seq l) (hg : ErrIs w b) (hx : seek l K0 = some v) (hc : Chg w v (num n)) (hn : n ≤ 1000) :
    Calls Tryz.prog 52 #[KI, .pointer (some ⟨tb, 0, none⟩), .int .i64 0] w fun e w' => e = .returned (.tuple #[.int .i64 (n : Int), .int .i64 0]) ∧ Below w.heap.size w w' := by
  obtain ⟨W1, hW1⟩ : ∃ W1, w.alloc (.cells #[.int .i64 0, .func (.func 50) #[] #[], .func (.func 49) #[] #[], .func (.func 51) #[] #[]] 67) = W1 := ⟨_, rfl⟩
  have b1 : Hid (Below w.heap.size w W1) := by rw [← hW1]; exact (Below.refl _ _).alloc (Nat.le_refl _) _
  have k1 : Hid (KC W1 w.heap.size) := by rw [← hW1]; exact KC.new w
  obtain ⟨c0, c1, c2, c3⟩ := k1.out.c
  have IK := keep (ikey_any 0 b W1 (by omega) (hg.below b1.out))
  have T1 := keep (h.below b1.out)
  have HX := keep hx
  have HC := keep hc
  have HNN := keep hn
  have NC := keep h.nocell
  clear h hg hx hc hn
  unfold KI at IK ⊢
  go_enter Tryz.func52, Tryz.ntmps52
  go_wp2_with fail
  refine IK.out.mono ?_
  rintro e w2 ⟨v2, rfl, hn2⟩
  obtain ⟨ap, ac, rfl, hs2, _⟩ := hn2.src
  have B2 := keep (b1.out.trans (hn2.2.mono b1.out.size))
  have TG := keep (tget_some tb eb wm gm seq l ap ac K0 w2 (T1.out.below hn2.2) hs2 (by unfold maxLen; decide) v (num n) HX.out (HC.out.kept (Kept.of_below B2.out) NC.out) (Nat.le_trans (num_short HNN.out) (by decide)))
  have K2 := keep (k1.out.below hn2.2)
  rw [k0_len] at TG
  clear hn2 hs2 IK hW1
  go_wp2_with fail
  refine TG.out.mono ?_
  rintro e w3 ⟨v3, rfl, hn3⟩
  obtain ⟨bp, bc, rfl, hs3, _⟩ := hn3.src
  have B3 := keep (B2.out.trans (hn3.2.mono B2.out.size))
  have ID := keep (idec_yes bp bc n w3 hs3 HNN.out)
  obtain ⟨d0, d1, d2, d3⟩ := (K2.out.below hn3.2).c
  unfold KI at ID
  clear hn3 hs3 TG c0 c1 c2 c3
  go_wp2_with fail
  refine ID.out.mono ?_
  rintro e w4 ⟨rfl, hb4⟩
  have B4 := keep (B3.out.trans (hb4.mono B3.out.size))
  clear hb4 ID
  go_wp2
  go_ret2
  exact ⟨rfl, B4.out⟩
set_option maxHeartbeats 2000000 in
set_option maxRecDepth 100000 in
theorem igz_any (tb eb wm gm db pm tm sk : Nat) (seq : Int) (l : List Named) (b : Addr) (n : Nat) (w : World) (h : TxnAt w tb eb wm gm seq l) (he : EngAt w eb db pm tm sk seq) (hg : ErrIs w b) (hh : Had w l n) (hn : n ≤ 1000) :
    Calls Tryz.prog 21 #[KI, .pointer (some ⟨tb, 0, none⟩), .int .i64 0] w fun e w' => e = .returned (.tuple #[.int .i64 (n : Int), .int .i64 0]) ∧ Below w.heap.size w w' := by
  obtain ⟨W1, hW1⟩ : ∃ W1, w.alloc (.cells #[.int .i64 0, .func (.func 50) #[] #[], .func (.func 49) #[] #[], .func (.func 51) #[] #[]] 67) = W1 := ⟨_, rfl⟩
  have b1 : Hid (Below w.heap.size w W1) := by rw [← hW1]; exact (Below.refl _ _).alloc (Nat.le_refl _) _
  have k1 : Hid (KC W1 w.heap.size) := by rw [← hW1]; exact KC.new w
  obtain ⟨c0, c1, c2, c3⟩ := k1.out.c
  have T1 := keep (h.below b1.out)
  have E1 := keep (he.below b1.out)
  have G1 := keep (hg.below b1.out)
  rcases hh.below b1.out with ⟨rfl, rfl⟩ | ⟨v, rfl, hc⟩
  · have IG := keep (iget_none tb eb wm gm db pm tm sk seq [] b W1 T1.out E1.out G1.out rfl)
    clear h he hg hh hn
    unfold KI at IG ⊢
    go_enter Tryz.func21, Tryz.ntmps21
    go_wp2_with fail
    refine IG.out.mono ?_
    rintro e w2 ⟨rfl, hb2⟩
    have B2 := keep (b1.out.trans (hb2.mono b1.out.size))
    clear hb2 IG hW1
    go_wp2
    go_ret2
    exact ⟨rfl, B2.out⟩
  · have IG := keep (iget_some tb eb wm gm seq [(K0, v)] b n v W1 T1.out G1.out (by simp [seek]) hc hn)
    clear h he hg hh hn hc
    unfold KI at IG ⊢
    go_enter Tryz.func21, Tryz.ntmps21
    go_wp2_with fail
    refine IG.out.mono ?_
    rintro e w2 ⟨rfl, hb2⟩
    have B2 := keep (b1.out.trans (hb2.mono b1.out.size))
    clear hb2 IG hW1
    go_wp2
    go_ret2
    exact ⟨rfl, B2.out⟩
set_option maxHeartbeats 2000000 in
set_option maxRecDepth 100000 in
theorem iput_any (tb eb wm gm : Nat) (seq : Int) (l : List Named) (b : Addr) (n m : Nat) (w : World) (h : TxnAt w tb eb wm gm seq l) (hg : ErrIs w b) (hh : Had w l n) (hm : m ≤ 1000) :
    Calls Tryz.prog 22 #[KI, .pointer (some ⟨tb, 0, none⟩), .int .i64 0, .int .i64 (m : Int)] w fun e w' => e = .returned (.int .i64 0) ∧ ∃ l', TxnAt w' tb eb wm gm seq l' ∧ Had w' l' m ∧ Kept (At wm) w w' := by
  obtain ⟨W1, hW1⟩ : ∃ W1, w.alloc (.cells #[.int .i64 0, .func (.func 50) #[] #[], .func (.func 49) #[] #[], .func (.func 51) #[] #[]] 67) = W1 := ⟨_, rfl⟩
  have b1 : Hid (Below w.heap.size w W1) := by rw [← hW1]; exact (Below.refl _ _).alloc (Nat.le_refl _) _
  have k1 : Hid (KC W1 w.heap.size) := by rw [← hW1]; exact KC.new w
  obtain ⟨c0, c1, c2, c3⟩ := k1.out.c
  have IE := keep (ienc_yes m W1 hm)
  have T1 := keep (h.below b1.out)
  have G1 := keep (hg.below b1.out)
  have H1 := keep (hh.below b1.out)
  have HMM := keep hm
  clear h hg hh hm
  unfold KI at IE ⊢
  go_enter Tryz.func22, Tryz.ntmps22
  go_wp2_with fail
  refine IE.out.mono ?_
  rintro e w2 ⟨v2, rfl, hn2⟩
  obtain ⟨bp, bc, rfl, hs2, _⟩ := hn2.src
  have B2 := keep (b1.out.trans (hn2.2.mono b1.out.size))
  have S2 := keep hs2
  have T2 := keep (T1.out.below hn2.2)
  have H2 := keep (H1.out.below hn2.2)
  have IK := keep (ikey_any 0 b w2 (by omega) (G1.out.below hn2.2))
  obtain ⟨d0, d1, d2, d3⟩ := (k1.out.below hn2.2).c
  unfold KI at IK
  clear hn2 hs2 IE hW1 c0 c1 c2 c3
  go_wp2_with fail
  refine IK.out.mono ?_
  rintro e w3 ⟨v3, rfl, hn3⟩
  obtain ⟨ap, ac, rfl, hs3, _⟩ := hn3.src
  have B3 := keep (B2.out.trans (hn3.2.mono B2.out.size))
  have H3 := keep (H2.out.below hn3.2)
  have PO := keep (put_ok tb eb wm gm seq l ap ac K0 bp bc (num m) w3 (T2.out.below hn3.2) hs3 (S2.out.below hn3.2) (by decide) (by decide) (Nat.le_trans (num_short HMM.out) (by decide)) H3.out.chg H3.out.few)
  rw [k0_len] at PO
  clear hn3 hs3 IK d0 d1 d2 d3
  go_wp2_with fail
  refine PO.out.mono ?_
  rintro e w4 ⟨rfl, v', ht, hc, hk⟩
  have R4 : Hid (∃ l', TxnAt w4 tb eb wm gm seq l' ∧ Had w4 l' m ∧ Kept (At wm) w w4) := ⟨_, ht, H3.out.lay hc, (Kept.of_below B3.out).trans hk⟩
  clear ht hc hk PO
  go_wp2
  go_ret
  exact ⟨rfl, R4.out⟩
set_option maxHeartbeats 2000000 in
set_option maxRecDepth 100000 in
theorem fresh_yes (tb eb wm gm db pm tm sk : Nat) (seq : Int) (l : List Named) (b : Addr) (n : Nat) (w : World) (h : TxnAt w tb eb wm gm seq l) (he : EngAt w eb db pm tm sk seq) (hg : ErrIs w b) (hh : Had w l n) (hn : n < 64) :
    Calls Tryz.prog 9 #[.pointer (some ⟨tb, 0, none⟩)] w fun e w' => e = .returned (.tuple #[.int .i64 ((n + 1 : Nat) : Int), .int .i64 0]) ∧ ∃ l', TxnAt w' tb eb wm gm seq l' ∧ Had w' l' (n + 1) ∧ Kept (At wm) w w' := by
  have H := keep h
  have HE := keep he
  have HG := keep hg
  have HH := keep hh
  have e1 : ((n : Int) + 1) = ((n + 1 : Nat) : Int) := by omega
  have e2 : ¬ (64 : Int) < ((n + 1 : Nat) : Int) := by omega
  have e3 : IntKind.i64.wrap ((n : Int) + 1) = ((n + 1 : Nat) : Int) := by rw [e1]; exact wrap_small _ (by omega) (by omega)
  clear h he hg hh e1
  go_enter Tryz.func9, Tryz.ntmps9
  go_wp2_with fail
  refine (amounts_any w).mono ?_
  rintro e w1 ⟨rfl, hb1⟩
  have B1 := keep hb1
  clear hb1
  go_wp2_with fail
  refine (igz_any tb eb wm gm db pm tm sk seq l b n w1 (H.out.below B1.out) (HE.out.below B1.out) (HG.out.below B1.out) (HH.out.below B1.out) (by omega)).mono ?_
  rintro e w2 ⟨rfl, hb2⟩
  have B2 := keep (B1.out.trans (hb2.mono B1.out.size))
  clear hb2
  go_wp2_with fail
  refine (amounts_any w2).mono ?_
  rintro e w3 ⟨rfl, hb3⟩
  have B3 := keep (B2.out.trans (hb3.mono B2.out.size))
  clear hb3
  go_wp2_with fail
  have IP := keep (iput_any tb eb wm gm seq l b n (n + 1) w3 (H.out.below B3.out) (HG.out.below B3.out) (HH.out.below B3.out) (by omega))
  refine IP.out.mono ?_
  rintro e w4 ⟨rfl, l', ht, hh, hk⟩
  have R4 : Hid (∃ l', TxnAt w4 tb eb wm gm seq l' ∧ Had w4 l' (n + 1) ∧ Kept (At wm) w w4) := ⟨l', ht, hh, (Kept.of_below B3.out).trans hk⟩
  clear ht hh hk IP
  go_wp2
  go_ret2
  exact ⟨rfl, R4.out⟩
set_option maxHeartbeats 2000000 in
set_option maxRecDepth 100000 in
theorem fresh_no (tb eb wm gm db pm tm sk : Nat) (seq : Int) (l : List Named) (b : Addr) (w : World) (h : TxnAt w tb eb wm gm seq l) (he : EngAt w eb db pm tm sk seq) (hg : ErrIs w b) (hh : Had w l 64) :
    Calls Tryz.prog 9 #[.pointer (some ⟨tb, 0, none⟩)] w fun e w' => e = .returned (.tuple #[.int .i64 0, .int .i64 1]) ∧ Below w.heap.size w w' := by
  have H := keep h
  have HE := keep he
  have HG := keep hg
  have HH := keep hh
  clear h he hg hh
  go_enter Tryz.func9, Tryz.ntmps9
  go_wp2_with fail
  refine (amounts_any w).mono ?_
  rintro e w1 ⟨rfl, hb1⟩
  have B1 := keep hb1
  clear hb1
  go_wp2_with fail
  refine (igz_any tb eb wm gm db pm tm sk seq l b 64 w1 (H.out.below B1.out) (HE.out.below B1.out) (HG.out.below B1.out) (HH.out.below B1.out) (by omega)).mono ?_
  rintro e w2 ⟨rfl, hb2⟩
  have B2 := keep (B1.out.trans (hb2.mono B1.out.size))
  clear hb2
  go_wp2
  go_ret2
  exact ⟨rfl, B2.out⟩
end Go.Proofs.YtogphpejdnhnjaaGreatDoor
