/- The reader in memory; the walks of its methods. -/
import Derived.Test.YtlhblbaingojaabJ6
import Derived.Test.YtlhblbaingojaabTw
namespace Go.Proofs.Ytlhblbaingojaab
open Go.RowKit
open Sk (Ent)

/-- Of two worlds, where one block, that holds a slice alone, may have been turned: what bytes lay elsewhere lie there. -/
theorem src_kept {w w' : World} {r : Nat} {x : Option Addr} {y z : Nat} {t : TypeId} {fr : Nat × Nat} (hr : w.heap[r]? = some (.cells #[.slice x y z] t fr)) (hk : Kept (· = r) w w') {ao : Option Addr} {m c : Nat} {l : List UInt8} (h : Src w ao m c l) : Src w' ao m c l :=
  ⟨h.len, h.cap, h.nil, fun ad had j u hu => by
    have hc := h.cells ad had j u hu
    have hlt := World.block_lt_of_cell? w _ hc
    rw [hk.cell hlt ?_]
    · exact hc
    · intro e
      have hb : ∃ v : UInt8, u = .int .u8 (v.toNat : Int) := by
        have hj := (List.getElem?_eq_some_iff.1 hu).1
        rw [bv_length] at hj
        rw [bv_at l j hj] at hu
        exact ⟨_, (Option.some.inj hu).symm⟩
      obtain ⟨v, rfl⟩ := hb
      have hsp := World.cell?_spot hc
      obtain ⟨q, hq⟩ : ∃ q, ad.add j = q := ⟨_, rfl⟩
      rw [hq] at hc e hsp
      obtain ⟨qb, qo, qs⟩ := q
      simp only at e hsp
      subst e
      subst hsp
      rw [cell_of_row _ _ _ _ _ _ hr] at hc
      cases qo with
      | zero => simp at hc
      | succ n => simp at hc⟩
/-- The same where the block holds no byte. -/
theorem src_kept' {w w' : World} {r : Nat} {cs : Array Value} {t : TypeId} {fr : Nat × Nat} (hr : w.heap[r]? = some (.cells cs t fr)) (hno : ∀ (i : Nat) (x : Int), cs[i]? ≠ some (.int .u8 x)) (hk : Kept (· = r) w w') {ao : Option Addr} {m c : Nat} {l : List UInt8} (h : Src w ao m c l) : Src w' ao m c l :=
  ⟨h.len, h.cap, h.nil, fun ad had j u hu => by
    have hc := h.cells ad had j u hu
    have hlt := World.block_lt_of_cell? w _ hc
    rw [hk.cell hlt ?_]
    · exact hc
    · intro e
      have hj := (List.getElem?_eq_some_iff.1 hu).1
      rw [bv_length] at hj
      rw [bv_at l j hj] at hu
      cases hu
      have hsp := World.cell?_spot hc
      obtain ⟨q, hq⟩ : ∃ q, ad.add j = q := ⟨_, rfl⟩
      rw [hq] at hc e hsp
      obtain ⟨qb, qo, qs⟩ := q
      simp only at e hsp
      subst e
      subst hsp
      rw [cell_of_row _ _ _ _ _ _ hr] at hc
      exact hno _ _ hc⟩
theorem no_byte4 {a b : Option Addr} {m c n d : Nat} {x : Int} {y : Bool} : ∀ (i : Nat) (z : Int), (#[Value.slice a m c, .int .i64 x, .bool y, .slice b n d] : Array Value)[i]? ≠ some (.int .u8 z)
  | 0, z => by simp
  | 1, z => by simp
  | 2, z => by simp
  | 3, z => by simp
  | n + 4, z => by simp
/-- The reader r: what is left to be read. -/
def Rd (r : Nat) (w : World) (rest : List UInt8) : Prop := ∃ ra rc, w.heap[r]? = some (.cells #[.slice ra rest.length rc] 51 (0, 0)) ∧ Src w ra rest.length rc rest
theorem Rd.below {r : Nat} {w w' : World} {rest : List UInt8} (h : Rd r w rest) (hb : Below w.heap.size w w') : Rd r w' rest := by
  obtain ⟨ra, rc, h1, h2⟩ := h
  exact ⟨ra, rc, (hb.block r (Array.getElem?_eq_some_iff.1 h1).1).trans h1, h2.below hb⟩
theorem Rd.lt {r : Nat} {w : World} {rest : List UInt8} (h : Rd r w rest) : r < w.heap.size := by
  obtain ⟨ra, rc, h1, h2⟩ := h
  exact (Array.getElem?_eq_some_iff.1 h1).1
theorem Rd.src {r : Nat} {w w' : World} {rest : List UInt8} (h : Rd r w rest) (hk : Kept (· = r) w w') {ao : Option Addr} {m c : Nat} {l : List UInt8} (hs : Src w ao m c l) : Src w' ao m c l := by
  obtain ⟨ra, rc, h1, _⟩ := h
  exact src_kept h1 hk hs
/-- The reader's cell is set. -/
theorem Rd.set {r : Nat} {w : World} {rest R : List UInt8} (h : Rd r w rest) {a : Option Addr} {c : Nat} (hs : Src w a R.length c R) : Rd r (w.setCell ⟨r, 0, none⟩ (.slice a R.length c)) R ∧ Kept (· = r) w (w.setCell ⟨r, 0, none⟩ (.slice a R.length c)) := by
  have hk : Kept (· = r) w (w.setCell ⟨r, 0, none⟩ (.slice a R.length c)) := Kept.setCell (Kept.refl (· = r) w) (p := ⟨r, 0, none⟩) (.inl rfl) _
  refine ⟨⟨a, c, ?_, h.src hk hs⟩, hk⟩
  obtain ⟨ra, rc, h1, _⟩ := h
  have := set_row h1 0 (.slice a R.length c)
  simpa using this
/-- The reader's bytes lie in a block of bytes. -/
def Rd5 (r : Nat) (w : World) : Prop := ∀ ra m rc t fr, w.heap[r]? = some (.cells #[.slice ra m rc] t fr) → In5 w ra
theorem Rd5.set {r : Nat} {w : World} {rest : List UInt8} (h : Rd r w rest) {a : Option Addr} {n c : Nat} (h5 : In5 w a) : Rd5 r (w.setCell ⟨r, 0, none⟩ (.slice a n c)) := fun ra m rc t fr hh => by
  obtain ⟨x, y, h1, _⟩ := h
  have h2 := set_row h1 0 (.slice a n c)
  rw [h2] at hh
  simp at hh
  obtain ⟨⟨rfl, rfl, rfl⟩, _⟩ := hh
  intro ad had
  obtain ⟨cur, fr', hc⟩ := h5 ad had
  refine ⟨cur, fr', ?_⟩
  rw [Below.heap_setCell w ⟨r, 0, none⟩ _ ad.block (fun e => ?_)]
  · exact hc
  · rw [e, h1] at hc
    simp at hc
/-- What a method of the reader does. -/
def Read (r : Nat) (w : World) (v : Value) (R : List UInt8) (e : Ending) (w' : World) : Prop := e = .returned v ∧ Rd r w' R ∧ Rd5 r w' ∧ Kept (· = r) w w'
set_option maxHeartbeats 1000000 in
set_option maxRecDepth 100000 in
theorem num_read (r : Nat) (rest : List UInt8) (w : World) (h : Rd r w rest) (hm : rest.length ≤ 140737488355328) :
    Calls Try.prog 31 #[.pointer (some ⟨r, 0, none⟩)] w (Read r w (.int .i64 (nOf rest : Int)) (rOf rest)) := by
  have H := keep h
  obtain ⟨ra, rc, h1, h2⟩ := h
  have TN := keep (takeNum_own ra rest.length rc rest w hm h2)
  have c0 : w.cell? ⟨r, 0, none⟩ = some (.slice ra rest.length rc) := cell_of_row _ _ _ _ _ _ h1
  have H1 := keep h1
  unfold TookN at TN
  obtain ⟨N, hN⟩ : ∃ N, nOf rest = N := ⟨_, rfl⟩
  obtain ⟨R, hR⟩ : ∃ R, rOf rest = R := ⟨_, rfl⟩
  rw [hN, hR] at TN ⊢
  clear hN hR h1 h2 hm
  obtain ⟨n, hn⟩ : ∃ n, rest.length = n := ⟨_, rfl⟩
  rw [hn] at c0 TN H1
  clear hn
  go_enter Try.func31, Try.ntmps31
  go_wp2_with fail
  refine TN.out.mono ?_
  rintro e w2 ⟨a2, k2, rfl, hs2, h52, hb2⟩
  have f0 : w2.frozen? ⟨r, 0, none⟩ = false := by
    have := (hb2.block r H.out.lt).trans H1.out
    simp [World.frozen?, this]
  have d0 : w2.cell? ⟨r, 0, none⟩ = some (.slice ra n rc) := below_cell hb2 c0
  have E := keep ((H.out.below hb2).set hs2)
  have E5 := keep (Rd5.set (H.out.below hb2) (n := R.length) (c := k2) h52)
  have b2 := keep hb2
  clear hb2 hs2 h52 TN
  obtain ⟨n2, hn2⟩ : ∃ n2, R.length = n2 := ⟨_, rfl⟩
  rw [hn2] at E E5 ⊢
  clear hn2
  go_wp2
  go_ret
  exact ⟨rfl, E.out.1, E5.out, (Kept.of_below b2.out).trans E.out.2⟩
set_option maxHeartbeats 1000000 in
set_option maxRecDepth 100000 in
theorem text_read (r : Nat) (rest : List UInt8) (most : Int) (w : World) (h : Rd r w rest) (hm : rest.length ≤ 140737488355328) :
    Calls Try.prog 32 #[.pointer (some ⟨r, 0, none⟩), .int .i64 most] w (Read r w (.string ⟨(Bq.tS rest most).toArray⟩) (Bq.tR rest most)) := by
  have H := keep h
  obtain ⟨ra, rc, h1, h2⟩ := h
  have TN : Hid (Calls Try.prog 50 #[.slice ra rest.length rc, .int .i64 most] w fun e w' => ∃ a c E, e = .returned (.tuple #[.string ⟨(Bq.tS rest most).toArray⟩, .slice a (Bq.tR rest most).length c, .int .i64 E]) ∧ Src w' a (Bq.tR rest most).length c (Bq.tR rest most) ∧ In5 w' a ∧ Below w.heap.size w w') := by
    refine (takeTextO_any ra rest.length rc rest most w hm h2).mono ?_
    rintro e w' (⟨S, R, a, c, ht, rfl, hs, h5, hb⟩ | ⟨ht, rfl, hb⟩)
    · have e1 : Bq.tS rest most = S := by simp [Bq.tS, ht]
      have e2 : Bq.tR rest most = R := by simp [Bq.tR, ht]
      rw [e1, e2]
      exact ⟨a, c, 0, rfl, hs, h5, hb⟩
    · have e1 : Bq.tS rest most = [] := by simp [Bq.tS, ht]
      have e2 : Bq.tR rest most = [] := by simp [Bq.tR, ht]
      rw [e1, e2]
      exact ⟨none, 0, 2, rfl, src_nil w', in5_none _, hb⟩
  have c0 : w.cell? ⟨r, 0, none⟩ = some (.slice ra rest.length rc) := cell_of_row _ _ _ _ _ _ h1
  have H1 := keep h1
  obtain ⟨S, hS⟩ : ∃ S, Bq.tS rest most = S := ⟨_, rfl⟩
  obtain ⟨R, hR⟩ : ∃ R, Bq.tR rest most = R := ⟨_, rfl⟩
  rw [hS, hR] at TN ⊢
  clear hS hR h1 h2 hm
  obtain ⟨n, hn⟩ : ∃ n, rest.length = n := ⟨_, rfl⟩
  rw [hn] at c0 TN H1
  clear hn
  go_enter Try.func32, Try.ntmps32
  go_wp2_with fail
  refine TN.out.mono ?_
  rintro e w2 ⟨a2, k2, E2, rfl, hs2, h52, hb2⟩
  have f0 : w2.frozen? ⟨r, 0, none⟩ = false := by
    have := (hb2.block r H.out.lt).trans H1.out
    simp [World.frozen?, this]
  have d0 : w2.cell? ⟨r, 0, none⟩ = some (.slice ra n rc) := below_cell hb2 c0
  have E := keep ((H.out.below hb2).set hs2)
  have E5 := keep (Rd5.set (H.out.below hb2) (n := R.length) (c := k2) h52)
  have b2 := keep hb2
  clear hb2 hs2 h52 TN
  obtain ⟨n2, hn2⟩ : ∃ n2, R.length = n2 := ⟨_, rfl⟩
  rw [hn2] at E E5 ⊢
  clear hn2
  go_wp2
  go_ret
  exact ⟨rfl, E.out.1, E5.out, (Kept.of_below b2.out).trans E.out.2⟩
end Go.Proofs.Ytlhblbaingojaab
