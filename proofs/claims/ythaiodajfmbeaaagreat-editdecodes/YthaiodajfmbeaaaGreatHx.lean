/- The walk of read. -/
import Derived.Test.YthaiodajfmbeaaaGreatJoinRr
namespace Go.Proofs.YthaiodajfmbeaaaGreat
open Go.RowKit
open Ed (Nt)

/-- How many notes a version in memory has. -/
def tabN (w : World) (b : Nat) : Nat := match w.cell? ⟨b, 4, none⟩ with
  | some (.slice _ n _) => n
  | _ => 0
theorem own_fiveX {w : World} {B t k n : Nat} {v : Value} {xs : List Value} (h : w.ownsRow B t k v n xs) {E T : Nat} {cs : Array Value} {fr : Nat × Nat} (hE : w.heap[E]? = some (.cells cs T fr)) (hT : T ≠ t) (a0 a1 a2 a3 a4 : Value) : (((((w.setCell ⟨E, 0, none⟩ a0).setCell ⟨E, 1, none⟩ a1).setCell ⟨E, 2, none⟩ a2).setCell ⟨E, 3, none⟩ a3).setCell ⟨E, 4, none⟩ a4).ownsRow B t k v n xs :=
  own_block h (fun j hj => by
    have hne : j ≠ E := fun e => by
      obtain ⟨cur, hcur⟩ := own_tag h hj
      rw [e, hE] at hcur
      cases hcur
      exact hT rfl
    have one : ∀ (W : World) (i : Nat) (u : Value), (W.setCell ⟨E, i, none⟩ u).heap[j]? = W.heap[j]? := fun W i u => Below.heap_setCell W ⟨E, i, none⟩ u j hne
    rw [one, one, one, one, one])
theorem B5.five {w : World} {E T : Nat} {cs : Array Value} {fr : Nat × Nat} (hE : w.heap[E]? = some (.cells cs T fr)) (hT : T ≠ 5) (a0 a1 a2 a3 a4 : Value) : B5 w (((((w.setCell ⟨E, 0, none⟩ a0).setCell ⟨E, 1, none⟩ a1).setCell ⟨E, 2, none⟩ a2).setCell ⟨E, 3, none⟩ a3).setCell ⟨E, 4, none⟩ a4) := fun g cur f hg => by
  have hne : g ≠ E := fun e => by
    rw [e, hE] at hg
    cases hg
    exact hT rfl
  have one : ∀ (W : World) (i : Nat) (u : Value), (W.setCell ⟨E, i, none⟩ u).heap[g]? = W.heap[g]? := fun W i u => Below.heap_setCell W ⟨E, i, none⟩ u g hne
  rw [one, one, one, one, one]
theorem rdMs_end {k : Nat} {L : List UInt8} (h : k = 0 ∨ L.length = 0) : Ed.rdMs k L = [] := by
  cases k with
  | zero => rfl
  | succ k =>
    rcases h with h | h
    · omega
    · rw [Ed.rdMs, if_pos h]
/-- A version's notes in memory of their own, their bytes in blocks of bytes. -/
def Firm (B : Nat) (w : World) (x : VV) : Prop := w.ownsRow B 39 5 (.slice x.p x.n x.c) x.n (rv metaKind x.es) ∧ ∀ y ∈ x.es, In5 w y.fp ∧ In5 w y.lp ∧ metaKind.held w y
theorem Firm.held {B : Nat} {w : World} {x : VV} (h : Firm B w x) : VV.held w x := by
  obtain ⟨q2, c2, e2, h2, _⟩ := RSrc.own metaKind_ok h.1 (fun y hy => (h.2 y hy).2.2)
  cases e2
  exact h2
theorem Firm.below {B : Nat} {w w' : World} {x : VV} (h : Firm B w x) (hb : Below w.heap.size w w') : Firm B w' x :=
  ⟨own_block h.1 (fun g hg => hb.block g (own_size h.1 hg)), fun y hy => ⟨(h.2 y hy).1.on (B5.of_below hb), (h.2 y hy).2.1.on (B5.of_below hb), metaKind_ok.below (h.2 y hy).2.2 hb⟩⟩
theorem Firm.five {B : Nat} {w : World} {x : VV} (h : Firm B w x) {E T : Nat} {cs : Array Value} {fr : Nat × Nat} (hE : w.heap[E]? = some (.cells cs T fr)) (h1 : T ≠ 39) (h2 : T ≠ 5) (a0 a1 a2 a3 a4 : Value) : Firm B (((((w.setCell ⟨E, 0, none⟩ a0).setCell ⟨E, 1, none⟩ a1).setCell ⟨E, 2, none⟩ a2).setCell ⟨E, 3, none⟩ a3).setCell ⟨E, 4, none⟩ a4) x :=
  have tb := B5.five hE h2 a0 a1 a2 a3 a4
  ⟨own_fiveX h.1 hE h1 a0 a1 a2 a3 a4, fun y hy => ⟨(h.2 y hy).1.on tb, (h.2 y hy).2.1.on tb, src_on (h.2 y hy).2.2.1 (h.2 y hy).1 tb, src_on (h.2 y hy).2.2.2 (h.2 y hy).2.1 tb⟩⟩
/-- A number is read. -/
def NumA (F : Nat → Prop) (rd : Nat) (z : Nat) (L' : List UInt8) (w : World) (e : Ending) (w' : World) : Prop := e = .returned (.int .i64 (z : Int)) ∧ Kept (AtB rd) w w' ∧ ∃ a2 c2, Rd F w' rd a2 L'.length c2 L'
/-- A text is read. -/
def TxtA (F : Nat → Prop) (rd : Nat) (s : List UInt8) (L' : List UInt8) (w : World) (e : Ending) (w' : World) : Prop := ∃ g cap, e = .returned (.slice (some ⟨g, 0, none⟩) s.length cap) ∧ In5 w' (some ⟨g, 0, none⟩) ∧ Src w' (some ⟨g, 0, none⟩) s.length cap s ∧ Kept (AtB rd) w w' ∧ ∃ a2 c2, Rd F w' rd a2 L'.length c2 L'
theorem numA {F : Nat → Prop} {rd : Nat} {L L' : List UInt8} {z : Nat} (hz : Ed.rdN L = z) (hL : Ed.rdL L = L') (hb : L.length ≤ 140737488355328) {w : World} {a : Option Addr} {c : Nat} (h : Rd F w rd a L.length c L) : Calls Tryz.prog 30 #[.pointer (some ⟨rd, 0, none⟩)] w (NumA F rd z L' w) := by
  subst hz hL
  refine (rnum_any rd a L.length c L w h hb).mono ?_
  rintro e w' ⟨h1, h2, h3⟩
  exact ⟨h1, h2, h3⟩
theorem txtA {F : Nat → Prop} {rd : Nat} {L L' s : List UInt8} (hz : Ed.rdS L = s) (hL : Ed.rdT L = L') (hb : L.length ≤ 140737488355328) {w : World} {a : Option Addr} {c : Nat} (h : Rd F w rd a L.length c L) : Calls Tryz.prog 31 #[.pointer (some ⟨rd, 0, none⟩)] w (TxtA F rd s L' w) := by
  subst hz hL
  refine (rtext_any rd a L.length c L w h hb).mono ?_
  rintro e w' ⟨g, cap, h1, _, h2, h3, h4, h5⟩
  exact ⟨g, cap, h1, h2, h3, h4, h5⟩

set_option maxHeartbeats 3000000 in
set_option maxRecDepth 100000 in
theorem read_any (ao : Option Addr) (c : Nat) (l : List UInt8) (w : World) (hs : Src w ao l.length c l) (hlt : ∀ ad, ao = some ad → ad.block < w.heap.size) (hn : l.length ≤ 140737488355328) :
    Calls Tryz.prog 13 #[.slice ao l.length c] w fun e w' => ∃ x : VV, e = .returned x.val ∧ x.v = Ed.rdV l ∧ VV.held w' x ∧ Firm w.heap.size w' x ∧ Below w.heap.size w w' := by
  obtain ⟨i0, hi0, hz0, hz1, hz2⟩ := info_partsM infoMeta
  obtain ⟨W1, hW1⟩ : ∃ W1, w.alloc (.cells #[.int .i64 0, .int .i64 0, .int .i64 0, .int .i64 0, .slice none 0 0] 26) = W1 := ⟨_, rfl⟩
  have b1 : Hid (Below w.heap.size w W1) := by rw [← hW1]; exact (Below.refl _ _).alloc (Nat.le_refl _) _
  have g1 : Hid (W1.heap[w.heap.size]? = some (.cells #[.int .i64 0, .int .i64 0, .int .i64 0, .int .i64 0, .slice none 0 0] 26)) := by rw [← hW1]; exact heap_alloc_new w _
  have z1 : Hid (W1.heap.size = w.heap.size + 1) := by rw [← hW1]; exact World.size_alloc _ _
  obtain ⟨M0, hM0⟩ : ∃ M0, l.length = M0 := ⟨_, rfl⟩
  obtain ⟨W2, hW2⟩ : ∃ W2, W1.alloc (.cells #[.slice ao M0 c] 68) = W2 := ⟨_, rfl⟩
  have b2 : Hid (Below W1.heap.size W1 W2) := by rw [← hW2]; exact (Below.refl _ _).alloc (Nat.le_refl _) _
  have R2 : Hid (Rd (· < w.heap.size) W2 W1.heap.size ao l.length c l) := ⟨by rw [← hW2, hM0]; exact heap_alloc_new W1 _, (hs.below b1.out).below b2.out, hlt, by have := z1.out; show ¬ W1.heap.size < w.heap.size; omega⟩
  obtain ⟨rd, hrd⟩ : ∃ rd, W1.heap.size = rd := ⟨_, rfl⟩
  rw [hrd] at R2
  have hwr : Hid (w.heap.size ≤ rd) := by have := z1.out; show _ ≤ _; omega
  have HLN := keep hn
  obtain ⟨l1, e1⟩ : ∃ x, Ed.rdL l = x := ⟨_, rfl⟩
  obtain ⟨l2, e2⟩ : ∃ x, Ed.rdL l1 = x := ⟨_, rfl⟩
  obtain ⟨l3, e3⟩ : ∃ x, Ed.rdL l2 = x := ⟨_, rfl⟩
  obtain ⟨l4, e4⟩ : ∃ x, Ed.rdL l3 = x := ⟨_, rfl⟩
  obtain ⟨l5, e5⟩ : ∃ x, Ed.rdL l4 = x := ⟨_, rfl⟩
  obtain ⟨G, f1⟩ : ∃ x, Ed.rdN l = x := ⟨_, rfl⟩
  obtain ⟨N, f2⟩ : ∃ x, Ed.rdN l1 = x := ⟨_, rfl⟩
  obtain ⟨Lg, f3⟩ : ∃ x, Ed.rdN l2 = x := ⟨_, rfl⟩
  obtain ⟨Sq, f4⟩ : ∃ x, Ed.rdN l3 = x := ⟨_, rfl⟩
  obtain ⟨Kn, f5⟩ : ∃ x, Ed.rdN l4 = x := ⟨_, rfl⟩
  have HV : Hid (Ed.rdV l = ⟨(G : Int), (N : Int), (Lg : Int), (Sq : Int), Ed.rdMs (min Kn 4096) l5⟩) := by
    show _ = _
    unfold Ed.rdV
    rw [f1, e1, f2, e2, f3, e3, f4, e4, f5, e5]
  have S1 : Hid (l1.length ≤ l.length) := by rw [← e1]; exact rdL_len l
  have S2 : Hid (l2.length ≤ l.length) := by rw [← e2]; exact Nat.le_trans (rdL_len l1) S1.out
  have S3 : Hid (l3.length ≤ l.length) := by rw [← e3]; exact Nat.le_trans (rdL_len l2) S2.out
  have S4 : Hid (l4.length ≤ l.length) := by rw [← e4]; exact Nat.le_trans (rdL_len l3) S3.out
  have S5 : Hid (l5.length ≤ l.length) := by rw [← e5]; exact Nat.le_trans (rdL_len l4) S4.out
  have N1 := keep (fun (w' : World) (a : Option Addr) (cc : Nat) (h : Rd (· < w.heap.size) w' rd a l.length cc l) => numA f1 e1 HLN.out h)
  have N2 := keep (fun (w' : World) (a : Option Addr) (cc : Nat) (h : Rd (· < w.heap.size) w' rd a l1.length cc l1) => numA f2 e2 (Nat.le_trans S1.out HLN.out) h)
  have N3 := keep (fun (w' : World) (a : Option Addr) (cc : Nat) (h : Rd (· < w.heap.size) w' rd a l2.length cc l2) => numA f3 e3 (Nat.le_trans S2.out HLN.out) h)
  have N4 := keep (fun (w' : World) (a : Option Addr) (cc : Nat) (h : Rd (· < w.heap.size) w' rd a l3.length cc l3) => numA f4 e4 (Nat.le_trans S3.out HLN.out) h)
  have N5 := keep (fun (w' : World) (a : Option Addr) (cc : Nat) (h : Rd (· < w.heap.size) w' rd a l4.length cc l4) => numA f5 e5 (Nat.le_trans S4.out HLN.out) h)
  have HM0 := keep hM0
  rw [hM0]
  have HE := keep hrd
  clear hs hlt hn e1 e2 e3 e4 e5 f1 f2 f3 f4 f5 hM0
  go_enter Tryz.func13, Tryz.ntmps13
  go_wp2_with fail
  refine (N1.out W2 ao c R2.out).mono ?_
  rintro e w3 ⟨rfl, hk, a3, c3, hr⟩
  have K3 := keep hk
  have R3 := keep hr
  clear hk hr hW1 hW2
  go_wp2_with fail
  refine (N2.out w3 a3 c3 R3.out).mono ?_
  rintro e w4 ⟨rfl, hk, a4, c4, hr⟩
  have K4 := keep (K3.out.trans hk)
  have R4 := keep hr
  clear hk hr
  go_wp2_with fail
  refine (N3.out w4 a4 c4 R4.out).mono ?_
  rintro e w5 ⟨rfl, hk, a5, c5, hr⟩
  have K5 := keep (K4.out.trans hk)
  have R5 := keep hr
  clear hk hr
  go_wp2_with fail
  refine (N4.out w5 a5 c5 R5.out).mono ?_
  rintro e w6 ⟨rfl, hk, a6, c6, hr⟩
  have K6 := keep (K5.out.trans hk)
  have R6 := keep hr
  clear hk hr
  obtain ⟨Wa, hWa⟩ : ∃ Wa, w6.alloc (.cells #[.int .i64 (G : Int), .int .i64 (N : Int), .int .i64 (Lg : Int), .int .i64 (Sq : Int), .slice none 0 0] 26) = Wa := ⟨_, rfl⟩
  have ga : Hid (Wa.heap[w6.heap.size]? = some (.cells #[.int .i64 (G : Int), .int .i64 (N : Int), .int .i64 (Lg : Int), .int .i64 (Sq : Int), .slice none 0 0] 26)) := by rw [← hWa]; exact heap_alloc_new w6 _
  have ca : Wa.cell? ⟨w6.heap.size, 4, none⟩ = some (.slice none 0 0) := cell_of_row _ _ _ _ _ _ ga.out
  have fa : Wa.frozen? ⟨w6.heap.size, 4, none⟩ = false := by simp [World.frozen?, ga.out]
  obtain ⟨W7, hW7⟩ : ∃ W7, Wa.setCell ⟨w6.heap.size, 4, none⟩ (.slice none 0 0) = W7 := ⟨_, rfl⟩
  have b7 : Hid (Below w6.heap.size w6 W7) := by rw [← hW7, ← hWa]; exact ((Below.refl _ _).alloc (Nat.le_refl _) _).setCell (p := ⟨w6.heap.size, 4, none⟩) (Nat.le_refl _) _
  have g7 : Hid (W7.heap[w6.heap.size]? = some (.cells #[.int .i64 (G : Int), .int .i64 (N : Int), .int .i64 (Lg : Int), .int .i64 (Sq : Int), .slice none 0 0] 26)) := by rw [← hW7]; exact (set_row ga.out 4 _).trans (by simp)
  have B2 := keep (b1.out.trans (b2.out.mono b1.out.size))
  have B6 : Hid (Below w.heap.size w w6) := B2.out.trans (K6.out.below B2.out.size (fun g e => by rw [show g = rd from e]; exact hwr.out))
  have B7 : Hid (Below w.heap.size w W7) := B6.out.trans (b7.out.mono B6.out.size)
  have hrv : Hid (rd < w6.heap.size) := R6.out.lt
  have G6 : Hid (w6.heap[w.heap.size]? = some (.cells #[.int .i64 0, .int .i64 0, .int .i64 0, .int .i64 0, .slice none 0 0] 26)) := by
    have h1 : W2.heap[w.heap.size]? = _ := (b2.out.block _ (by rw [z1.out]; omega)).trans g1.out
    exact (K6.out.block _ (Array.getElem?_eq_some_iff.1 h1).1 (fun e => by have h2 := HE.out; have h3 := z1.out; have h4 : w.heap.size = rd := e; omega)).trans h1
  have G7 : Hid (W7.heap[w.heap.size]? = _) := (b7.out.block _ (Array.getElem?_eq_some_iff.1 G6.out).1).trans G6.out
  clear hrd
  go_wp2_with fail
  refine (N5.out W7 a6 c6 (R6.out.below b7.out)).mono ?_
  rintro e w8 ⟨rfl, hk, a8, c8, hr⟩
  obtain ⟨vb, hvb⟩ : ∃ vb, w6.heap.size = vb := ⟨_, rfl⟩
  obtain ⟨KK, hK⟩ : ∃ KK, min Kn 4096 = KK := ⟨_, rfl⟩
  have hmin : min (Kn : Int) 4096 = (KK : Int) := by omega
  have hK4 : KK ≤ 4096 := by omega
  rw [hK] at HV
  have hwv : Hid (w.heap.size ≤ vb) := by rw [← hvb]; exact B6.out.size
  have G8 : Hid (w8.heap[w.heap.size]? = some (.cells #[.int .i64 0, .int .i64 0, .int .i64 0, .int .i64 0, .slice none 0 0] 26)) := (hk.block _ (Array.getElem?_eq_some_iff.1 G7.out).1 (fun e => by have h2 := HE.out; have h3 := z1.out; have h4 : w.heap.size = rd := e; omega)).trans G7.out
  have g8 : Hid (w8.heap[vb]? = some (.cells #[.int .i64 (G : Int), .int .i64 (N : Int), .int .i64 (Lg : Int), .int .i64 (Sq : Int), .slice none 0 0] 26)) := by
    rw [← hvb]
    exact (hk.block _ (Array.getElem?_eq_some_iff.1 g7.out).1 (fun e => by have h1 : w6.heap.size = rd := e; have h2 := hrv.out; omega)).trans g7.out
  have I8 : Hid (RdI w rd vb G N Lg Sq KK M0 l5 [] (.slice none 0 0) l5 w8 ∧ w8.heap[w.heap.size]? = some (.cells #[.int .i64 0, .int .i64 0, .int .i64 0, .int .i64 0, .slice none 0 0] 26)) := ⟨⟨B7.out.trans (hk.below B7.out.size (fun g e => by rw [show g = rd from e]; exact hwr.out)), ⟨a8, c8, hr⟩, g8.out, World.ownsRow_nil _ _ _ _, fun y hy => (by cases hy), rfl, Nat.zero_le _, by rw [← HM0.out]; exact S5.out⟩, G8.out⟩
  have wne : Hid (w.heap.size ≠ vb ∧ w.heap.size ≠ rd) := ⟨fun e => by have h2 := hrv.out; have h1 := hwr.out; omega, fun e => by have h2 := HE.out; have h3 := z1.out; omega⟩
  clear hk hr g8 g7 b7 R2 R3 R4 R5 R6 K3 K4 K5 K6 N1 N2 N3 N4 N5 b1 b2 B2 B6 B7 hrv G6 G7 G8 g1 hK
  go_wp2
  clear hmin hW7 hWa ca fa
  go_loopw [] (fun wr => ∃ (ys : List MV) (v : Value) (L : List UInt8), Hid (RdI w rd vb G N Lg Sq KK M0 l5 ys v L wr ∧ wr.heap[w.heap.size]? = some (.cells #[.int .i64 0, .int .i64 0, .int .i64 0, .int .i64 0, .slice none 0 0] 26))) (fun wr => KK - tabN wr vb)
  case atStart => exact ⟨[], _, l5, I8.out⟩
  case round =>
    obtain ⟨ys, v, L, hIJ⟩ := hrel
    have hI := keep hIJ.out.1
    have hRS := keep hIJ.out.2
    clear hIJ I8
    obtain ⟨q, cc, hvq⟩ := own_sliceM hI.out.row
    subst hvq
    obtain ⟨YN, hYN⟩ : ∃ YN, ys.length = YN := ⟨_, rfl⟩
    obtain ⟨LL, hLL⟩ : ∃ LL, L.length = LL := ⟨_, rfl⟩
    obtain ⟨ar, cr, hr⟩ := hI.out.rdr
    have RR := keep hr
    have cv : wr.cell? ⟨vb, 4, none⟩ = some (.slice q YN cc) := by rw [cell_of_row _ _ _ _ _ _ hI.out.ver]; rw [hYN]; rfl
    have crd : wr.cell? ⟨rd, 0, none⟩ = some (.slice ar LL cr) := by rw [← hLL]; exact hr.cell
    have hyK : YN ≤ KK := by rw [← hYN]; exact hI.out.len
    have hLn : LL ≤ M0 := by rw [← hLL]; exact hI.out.short
    have HYN := keep hYN
    have HLL := keep hLL
    have TN : Hid (tabN wr vb = YN) := by show tabN wr vb = YN; unfold tabN; rw [cv]
    clear hr hYN hLL
    by_cases hc : YN < KK ∧ 0 < LL
    · obtain ⟨hc1, hc2⟩ := hc
      have d1 : (YN : Int) < (KK : Int) := by omega
      have d2 : (0 : Int) < (LL : Int) := by omega
      have HRW : Hid (wr.ownsRow w.heap.size 39 5 (.slice q YN cc) YN (rv metaKind ys)) := by have := hI.out.row; rw [HYN.out] at this; exact this
      have CV : Hid (∀ w', Kept (fun g => AtB rd g ∨ (Value.slice q YN cc).ownBlock = some g) wr w' → w'.cell? ⟨vb, 4, none⟩ = some (.slice q YN cc) ∧ w'.frozen? ⟨vb, 4, none⟩ = false ∧ w'.heap[w.heap.size]? = wr.heap[w.heap.size]?) := fun w' hk => by
        have nv : ¬ (AtB rd vb ∨ (Value.slice q YN cc).ownBlock = some vb) := by
          rintro (e | e)
          · have h1 := hI.out.ver
            rw [show vb = rd from e, RR.out.row] at h1
            cases h1
          · obtain ⟨cur, h1⟩ := own_tag HRW.out e
            rw [hI.out.ver] at h1
            cases h1
        have h2 := (hk.block vb (Array.getElem?_eq_some_iff.1 hI.out.ver).1 nv).trans hI.out.ver
        refine ⟨by rw [cell_of_row _ _ _ _ _ _ h2, HYN.out]; rfl, by simp [World.frozen?, h2], ?_⟩
        refine hk.block _ (Array.getElem?_eq_some_iff.1 hRS.out).1 ?_
        rintro (e | e)
        · exact wne.out.2 e
        · obtain ⟨cur, h1⟩ := own_tag HRW.out e
          rw [hRS.out] at h1
          cases h1
      obtain ⟨m1, e1⟩ : ∃ x, Ed.rdL L = x := ⟨_, rfl⟩
      obtain ⟨m2, e2⟩ : ∃ x, Ed.rdL m1 = x := ⟨_, rfl⟩
      obtain ⟨m3, e3⟩ : ∃ x, Ed.rdL m2 = x := ⟨_, rfl⟩
      obtain ⟨m4, e4⟩ : ∃ x, Ed.rdT m3 = x := ⟨_, rfl⟩
      obtain ⟨m5, e5⟩ : ∃ x, Ed.rdT m4 = x := ⟨_, rfl⟩
      obtain ⟨n1, f1⟩ : ∃ x, Ed.rdN L = x := ⟨_, rfl⟩
      obtain ⟨n2, f2⟩ : ∃ x, Ed.rdN m1 = x := ⟨_, rfl⟩
      obtain ⟨n3, f3⟩ : ∃ x, Ed.rdN m2 = x := ⟨_, rfl⟩
      obtain ⟨t4, f4⟩ : ∃ x, Ed.rdS m3 = x := ⟨_, rfl⟩
      obtain ⟨t5, f5⟩ : ∃ x, Ed.rdS m4 = x := ⟨_, rfl⟩
      have ML : Hid (Ed.rdML L = m5) := by show _ = _; unfold Ed.rdML; rw [e1, e2, e3, e4, e5]
      have MM : Hid (Ed.rdM L = ⟨(n1 : Int), (n2 : Int), (n3 : Int), t4, t5⟩) := by show _ = _; unfold Ed.rdM; rw [f1, e1, f2, e2, f3, e3, f4, e4, f5]
      have ub : LL ≤ 140737488355328 := by have := HLN.out; have h2 := HM0.out; omega
      have s0 : Hid (L.length ≤ 140737488355328) := by rw [HLL.out]; exact ub
      have s1 : Hid (m1.length ≤ 140737488355328) := by rw [← e1]; exact Nat.le_trans (rdL_len L) s0.out
      have s2 : Hid (m2.length ≤ 140737488355328) := by rw [← e2]; exact Nat.le_trans (rdL_len m1) s1.out
      have s3 : Hid (m3.length ≤ 140737488355328) := by rw [← e3]; exact Nat.le_trans (rdL_len m2) s2.out
      have s4 : Hid (m4.length ≤ 140737488355328) := by rw [← e4]; exact Nat.le_trans (rdT_len m3) s3.out
      have N1 := keep (fun (w' : World) (a : Option Addr) (cc : Nat) (h : Rd (· < w.heap.size) w' rd a L.length cc L) => numA f1 e1 s0.out h)
      have N2 := keep (fun (w' : World) (a : Option Addr) (cc : Nat) (h : Rd (· < w.heap.size) w' rd a m1.length cc m1) => numA f2 e2 s1.out h)
      have N3 := keep (fun (w' : World) (a : Option Addr) (cc : Nat) (h : Rd (· < w.heap.size) w' rd a m2.length cc m2) => numA f3 e3 s2.out h)
      have N4 := keep (fun (w' : World) (a : Option Addr) (cc : Nat) (h : Rd (· < w.heap.size) w' rd a m3.length cc m3) => txtA f4 e4 s3.out h)
      have N5 := keep (fun (w' : World) (a : Option Addr) (cc : Nat) (h : Rd (· < w.heap.size) w' rd a m4.length cc m4) => txtA f5 e5 s4.out h)
      clear e1 e2 e3 e4 e5 f1 f2 f3 f4 f5
      go_wp2_with fail
      refine wp_region_parted (fun w' => Kept (fun g => AtB rd g ∨ (Value.slice q YN cc).ownBlock = some g) wr w') 16 _ (by kernel_rfl) rfl rfl rfl (by kernel_rfl) (by kernel_rfl) ((Kept.refl _ _).drew) (fun hHeld => ?_)
      simp only [List.setIfInBounds_toArray, List.set_cons_succ, List.set_cons_zero, mute]
      refine takeH (i := 0) 34 (v := .pointer (some ⟨vb, 4, none⟩)) rfl rfl (by kernel_rfl) (by kernel_rfl) (by kernel_rfl) (fun _ _ _ h => h) (Or.inl ⟨by rfl, ?_⟩) (by assumption) ?_
      · intro w' hSw'
        go_simp
      simp only [Act.put, List.setIfInBounds_toArray, List.set_cons_zero, List.set_cons_succ]
      refine takeH (i := 1) 35 (v := .slice q YN cc) rfl rfl (by kernel_rfl) (by kernel_rfl) (by kernel_rfl) (fun _ _ _ h => h) (Or.inl ⟨by rfl, ?_⟩) (by assumption) ?_
      · intro w' hSw'
        have cv' := (CV.out w' hSw').1
        go_simp
      simp only [Act.put, List.setIfInBounds_toArray, List.set_cons_zero, List.set_cons_succ]
      refine takeH (i := 2) 36 (v := .pointer (some ⟨rd, 0, none⟩)) rfl rfl (by kernel_rfl) (by kernel_rfl) (by kernel_rfl) (fun _ _ _ h => h) (Or.inl ⟨by rfl, ?_⟩) (by assumption) ?_
      · intro w' hSw'
        go_simp
      simp only [Act.put, List.setIfInBounds_toArray, List.set_cons_zero, List.set_cons_succ]
      refine takeH (i := 4) 38 (v := .pointer (some ⟨rd, 0, none⟩)) rfl rfl (by kernel_rfl) (by kernel_rfl) (by kernel_rfl) (fun _ _ _ h => h) (Or.inl ⟨by rfl, ?_⟩) (by assumption) ?_
      · intro w' hSw'
        go_simp
      simp only [Act.put, List.setIfInBounds_toArray, List.set_cons_zero, List.set_cons_succ]
      refine takeH (i := 6) 40 (v := .pointer (some ⟨rd, 0, none⟩)) rfl rfl (by kernel_rfl) (by kernel_rfl) (by kernel_rfl) (fun _ _ _ h => h) (Or.inl ⟨by rfl, ?_⟩) (by assumption) ?_
      · intro w' hSw'
        go_simp
      simp only [Act.put, List.setIfInBounds_toArray, List.set_cons_zero, List.set_cons_succ]
      refine takeH (i := 8) 42 (v := .pointer (some ⟨rd, 0, none⟩)) rfl rfl (by kernel_rfl) (by kernel_rfl) (by kernel_rfl) (fun _ _ _ h => h) (Or.inl ⟨by rfl, ?_⟩) (by assumption) ?_
      · intro w' hSw'
        go_simp
      simp only [Act.put, List.setIfInBounds_toArray, List.set_cons_zero, List.set_cons_succ]
      refine takeH (i := 10) 44 (v := .pointer (some ⟨rd, 0, none⟩)) rfl rfl (by kernel_rfl) (by kernel_rfl) (by kernel_rfl) (fun _ _ _ h => h) (Or.inl ⟨by rfl, ?_⟩) (by assumption) ?_
      · intro w' hSw'
        go_simp
      simp only [Act.put, List.setIfInBounds_toArray, List.set_cons_zero, List.set_cons_succ]
      refine wpAnyH_ready (rs := [3]) (by kernel_rfl) (by simp) ?_
      refine AllReadyH.cons rfl (fun K hK => ?_) AllReadyH.nil
      go_simp
      refine (N1.out _ _ _ (RR.out.below ((Below.refl _ _).drew))).mono ?_
      rintro e x1 ⟨rfl, hk, ar1, cr1, hr⟩
      have K1 := keep ((Kept.refl _ wr).drew.trans hk)
      have R1 := keep hr
      clear hk hr
      go_wp2_with fail
      refine hK.out _ _ (K1.out.wide (fun g _ e => .inl e)) (fun hA1 => ?_)
      clear hK K
      refine wpAnyH_ready (rs := [5]) (by kernel_rfl) (by simp) ?_
      refine AllReadyH.cons rfl (fun K hK => ?_) AllReadyH.nil
      go_simp
      refine (N2.out _ _ _ (R1.out)).mono ?_
      rintro e x2 ⟨rfl, hk, ar2, cr2, hr⟩
      have K2 := keep (K1.out.trans hk)
      have R2 := keep hr
      clear hk hr
      go_wp2_with fail
      refine hK.out _ _ (K2.out.wide (fun g _ e => .inl e)) (fun hA2 => ?_)
      clear hK K
      refine wpAnyH_ready (rs := [7]) (by kernel_rfl) (by simp) ?_
      refine AllReadyH.cons rfl (fun K hK => ?_) AllReadyH.nil
      go_simp
      refine (N3.out _ _ _ (R2.out)).mono ?_
      rintro e x3 ⟨rfl, hk, ar3, cr3, hr⟩
      have K3 := keep (K2.out.trans hk)
      have R3 := keep hr
      clear hk hr
      go_wp2_with fail
      refine hK.out _ _ (K3.out.wide (fun g _ e => .inl e)) (fun hA3 => ?_)
      clear hK K
      refine wpAnyH_ready (rs := [9]) (by kernel_rfl) (by simp) ?_
      refine AllReadyH.cons rfl (fun K hK => ?_) AllReadyH.nil
      go_simp
      refine (N4.out _ _ _ R3.out).mono ?_
      rintro e x4 ⟨g4, e4, rfl, h5, hs, hk, ar4, cr4, hr⟩
      have K4 := keep (K3.out.trans hk)
      have R4 := keep hr
      have F4 := keep h5
      have S4 := keep hs
      have P4 := keep hk
      clear hk hr h5 hs
      go_wp2_with fail
      refine hK.out _ _ (K4.out.wide (fun g _ e => .inl e)) (fun hA4 => ?_)
      clear hK K
      refine wpAnyH_ready (rs := [11]) (by kernel_rfl) (by simp) ?_
      refine AllReadyH.cons rfl (fun K hK => ?_) AllReadyH.nil
      go_simp
      refine (N5.out _ _ _ R4.out).mono ?_
      rintro e x5 ⟨g5, e5, rfl, h5, hs, hk, ar5, cr5, hr⟩
      have K5 := keep (K4.out.trans hk)
      have R5 := keep hr
      have F5 := keep h5
      have S5 := keep hs
      have P5 := keep hk
      clear hk hr h5 hs
      go_wp2_with fail
      refine hK.out _ _ (K5.out.wide (fun g _ e => .inl e)) (fun hA5 => ?_)
      clear hK K
      refine takeH (i := 12) 46 (v := .agg #[.int .i64 (n1 : Int), .int .i64 (n2 : Int), .int .i64 (n3 : Int), .slice (some ⟨g4, 0, none⟩) t4.length e4, .slice (some ⟨g5, 0, none⟩) t5.length e5]) rfl rfl (by kernel_rfl) (by kernel_rfl) (by kernel_rfl) (fun _ _ _ h => h) (Or.inl ⟨by rfl, ?_⟩) (by assumption) ?_
      · intro w' hSw'
        go_simp
      simp only [Act.put, List.setIfInBounds_toArray, List.set_cons_zero, List.set_cons_succ]
      have t45 : Hid (B5 x4 x5) := B5.of_kept P5.out (fun g e cur fr hgc => by rw [show g = rd from e, R4.out.row] at hgc; cases hgc)
      have YH : Hid (metaKind.held x5 ⟨some ⟨g4, 0, none⟩, e4, some ⟨g5, 0, none⟩, e5, ⟨(n1 : Int), (n2 : Int), (n3 : Int), t4, t5⟩⟩) := ⟨src_on S4.out F4.out t45.out, S5.out⟩
      have RC5 : Hid (RdC w rd L wr x5 ⟨some ⟨g4, 0, none⟩, e4, some ⟨g5, 0, none⟩, e5, ⟨(n1 : Int), (n2 : Int), (n3 : Int), t4, t5⟩⟩) := ⟨K5.out, by rw [ML.out]; exact ⟨_, _, R5.out⟩, ⟨F4.out.on t45.out, F5.out, YH.out⟩, by rw [MM.out]⟩
      obtain ⟨x6, hx6⟩ : ∃ x6, x5.alloc (.cells #[.int .i64 (n1 : Int), .int .i64 (n2 : Int), .int .i64 (n3 : Int), .slice (some ⟨g4, 0, none⟩) t4.length e4, .slice (some ⟨g5, 0, none⟩) t5.length e5] 39) = x6 := ⟨_, rfl⟩
      have b6 : Hid (Below x5.heap.size x5 x6) := by rw [← hx6]; exact (Below.refl _ _).alloc (Nat.le_refl _) _
      have XS : Hid (RSrc metaKind x6 (some ⟨x5.heap.size, 0, none⟩) 1 1 [⟨some ⟨g4, 0, none⟩, e4, some ⟨g5, 0, none⟩, e5, ⟨(n1 : Int), (n2 : Int), (n3 : Int), t4, t5⟩⟩]) := by rw [← hx6]; exact RSrc.built1M YH.out
      have K6 : Hid (Kept (fun g => AtB rd g ∨ (Value.slice q YN cc).ownBlock = some g) wr x6) := (K5.out.trans (Kept.of_below b6.out)).wide (fun g _ e => .inl e)
      have ZR6 : Hid (x6.ownsRow w.heap.size 39 5 (.slice q YN cc) YN (rv metaKind ys)) := own_block HRW.out (fun g hg => (K5.out.trans (Kept.of_below b6.out)).block g (own_size HRW.out hg) (fun e => by obtain ⟨cur, hcur⟩ := own_tag HRW.out hg; rw [show g = rd from e, RR.out.row] at hcur; cases hcur))
      have bs6 : Hid (w.heap.size ≤ x6.heap.size) := Nat.le_trans hI.out.bel.size K6.out.size
      refine wpAnyH_ready (rs := [13]) (by kernel_rfl) (by simp) ?_
      refine AllReadyH.cons rfl (fun K hK => ?_) AllReadyH.nil
      go_simp
      refine hK.out _ _ K6.out (fun hA6 => ?_)
      clear hK K
      refine wpAnyH_ready (rs := [14]) (by kernel_rfl) (by simp) ?_
      refine AllReadyH.cons rfl (fun K hK => ?_) AllReadyH.nil
      refine step_append_rows rfl _ _ 24 rfl w.heap.size 39 i0 _ 5 72 Tryz.underlying24 hi0 hz0 hz1 hz2 rfl (by decide) (.slice q YN cc) YN (rv metaKind ys) rfl ZR6.out (some ⟨x5.heap.size, 0, none⟩) 1 1 (rv metaKind [⟨some ⟨g4, 0, none⟩, e4, some ⟨g5, 0, none⟩, e5, ⟨(n1 : Int), (n2 : Int), (n3 : Int), t4, t5⟩⟩]) rfl (fun h => by cases h) rfl XS.out.cells (rv_one metaKind_ok _) (by unfold maxLen; omega) (by omega) bs6.out ?_
      intro a7 c7 w7 ho7 hg7
      have K7 : Hid (Kept (fun g => AtB rd g ∨ (Value.slice q YN cc).ownBlock = some g) wr w7) := K6.out.grown hg7 (fun k hk => .inl (.inr hk))
      obtain ⟨cv7, fv7, rs7⟩ := CV.out w7 K7.out
      have NX := hI.out.next (v7 := .slice a7 (YN + 1) c7) (w7 := w7) hwr.out hwv.out (by rw [HLL.out]; exact hc2) (by rw [HYN.out]; exact hc1) RC5.out (by rw [HYN.out, rv_append]; exact ho7) (by rw [HYN.out]; rw [← hx6] at hg7; exact hg7)
      have FN : Hid (RdI w rd vb G N Lg Sq KK M0 l5 (ys ++ [⟨some ⟨g4, 0, none⟩, e4, some ⟨g5, 0, none⟩, e5, ⟨(n1 : Int), (n2 : Int), (n3 : Int), t4, t5⟩⟩]) (.slice a7 (YN + 1) c7) (Ed.rdML L) (w7.setCell ⟨vb, 4, none⟩ (.slice a7 (YN + 1) c7))) := NX.2
      have FS : Hid ((w7.setCell ⟨vb, 4, none⟩ (.slice a7 (YN + 1) c7)).heap[w.heap.size]? = some (.cells #[.int .i64 0, .int .i64 0, .int .i64 0, .int .i64 0, .slice none 0 0] 26)) := (Below.heap_setCell w7 ⟨vb, 4, none⟩ _ _ wne.out.1).trans (rs7.trans hRS.out)
      have TF : Hid (tabN (w7.setCell ⟨vb, 4, none⟩ (.slice a7 (YN + 1) c7)) vb = YN + 1) := by show tabN _ vb = YN + 1; unfold tabN; rw [cell_of_row _ _ _ _ _ _ FN.out.ver]; rfl
      clear ho7 hg7 NX
      refine hK.out _ _ K7.out (fun hA7 => ?_)
      clear hK K
      refine takeH (i := 15) 49 (v := .pointer (some ⟨vb, 4, none⟩)) rfl rfl (by kernel_rfl) (by kernel_rfl) (by kernel_rfl) (fun _ _ _ h => h) (Or.inl ⟨by rfl, ?_⟩) (by assumption) ?_
      · intro w' hSw'
        go_simp
      simp only [Act.put, List.setIfInBounds_toArray]
      refine wpAnyH_ready (rs := [16]) (by kernel_rfl) (by simp) ?_
      refine AllReadyH.cons rfl (fun K hK => ?_) AllReadyH.nil
      go_simp
      refine hK.out _ _ K7.out (fun hA8 => ?_)
      clear hK K
      refine wpAnyH_done (by kernel_rfl) ?_ _
      unfold LastQ
      go_simp
      go_wp2
      go_roundw
      case rel => exact ⟨_, _, _, FN.out, FS.out⟩
      case measure => first | (rw [TF.out, TN.out]; omega) | (simp only [TF.out, TN.out]; omega)
    · have EP : Hid (KK - YN = 0 ∨ LL = 0) := by show _ ∨ _; omega
      have PL := hI.out.plain
      rw [HYN.out, rdMs_end (k := KK - YN) (L := L) (by rw [HLL.out]; exact EP.out), List.append_nil] at PL
      have XV : Hid (Ed.rdV l = ⟨(G : Int), (N : Int), (Lg : Int), (Sq : Int), ys.map (·.m)⟩) := by rw [← PL]; exact HV.out
      have HRW : Hid (wr.ownsRow w.heap.size 39 5 (.slice q YN cc) YN (rv metaKind ys)) := by have := hI.out.row; rw [HYN.out] at this; exact this
      have HEA := keep hI.out.each
      have BB := keep hI.out.bel
      have VE := hI.out.ver
      rw [HYN.out] at VE
      have t0 : wr.cell? ⟨vb, 0, none⟩ = some (.int .i64 (G : Int)) := cell_of_row _ _ _ _ _ _ VE
      have t1 : wr.cell? ⟨vb, 1, none⟩ = some (.int .i64 (N : Int)) := cell_of_row _ _ _ _ _ _ VE
      have t2 : wr.cell? ⟨vb, 2, none⟩ = some (.int .i64 (Lg : Int)) := cell_of_row _ _ _ _ _ _ VE
      have t3 : wr.cell? ⟨vb, 3, none⟩ = some (.int .i64 (Sq : Int)) := cell_of_row _ _ _ _ _ _ VE
      clear PL VE hI
      by_cases h1 : YN < KK
      · have h2 : LL = 0 := by omega
        have d1 : (YN : Int) < (KK : Int) := by omega
        subst h2
        have z0 : wr.cell? ⟨w.heap.size, 0, none⟩ = some (.int .i64 0) := cell_of_row _ _ _ _ _ _ hRS.out
        have y0 : wr.frozen? ⟨w.heap.size, 0, none⟩ = false := by simp [World.frozen?, hRS.out]
        have z1 : wr.cell? ⟨w.heap.size, 1, none⟩ = some (.int .i64 0) := cell_of_row _ _ _ _ _ _ hRS.out
        have y1 : wr.frozen? ⟨w.heap.size, 1, none⟩ = false := by simp [World.frozen?, hRS.out]
        have z2 : wr.cell? ⟨w.heap.size, 2, none⟩ = some (.int .i64 0) := cell_of_row _ _ _ _ _ _ hRS.out
        have y2 : wr.frozen? ⟨w.heap.size, 2, none⟩ = false := by simp [World.frozen?, hRS.out]
        have z3 : wr.cell? ⟨w.heap.size, 3, none⟩ = some (.int .i64 0) := cell_of_row _ _ _ _ _ _ hRS.out
        have y3 : wr.frozen? ⟨w.heap.size, 3, none⟩ = false := by simp [World.frozen?, hRS.out]
        have z4 : wr.cell? ⟨w.heap.size, 4, none⟩ = some (.slice none 0 0) := cell_of_row _ _ _ _ _ _ hRS.out
        have y4 : wr.frozen? ⟨w.heap.size, 4, none⟩ = false := by simp [World.frozen?, hRS.out]
        go_wp2
        refine ⟨rfl, .agg #[.int .i64 (G : Int), .int .i64 (N : Int), .int .i64 (Lg : Int), .int .i64 (Sq : Int), .slice q YN cc], ?_, ?_⟩
        · have r0 : (wr.setCell ⟨w.heap.size, 0, none⟩ (.int .i64 (G : Int))).cell? ⟨w.heap.size, 0, none⟩ = some (.int .i64 (G : Int)) := World.cell?_setCell_same' _ _ _ (by simp [go_sem, z0])
          have r1 : ((wr.setCell ⟨w.heap.size, 0, none⟩ (.int .i64 (G : Int))).setCell ⟨w.heap.size, 1, none⟩ (.int .i64 (N : Int))).cell? ⟨w.heap.size, 1, none⟩ = some (.int .i64 (N : Int)) := World.cell?_setCell_same' _ _ _ (by simp [go_sem, z1])
          have r2 : (((wr.setCell ⟨w.heap.size, 0, none⟩ (.int .i64 (G : Int))).setCell ⟨w.heap.size, 1, none⟩ (.int .i64 (N : Int))).setCell ⟨w.heap.size, 2, none⟩ (.int .i64 (Lg : Int))).cell? ⟨w.heap.size, 2, none⟩ = some (.int .i64 (Lg : Int)) := World.cell?_setCell_same' _ _ _ (by simp [go_sem, z2])
          have r3 : ((((wr.setCell ⟨w.heap.size, 0, none⟩ (.int .i64 (G : Int))).setCell ⟨w.heap.size, 1, none⟩ (.int .i64 (N : Int))).setCell ⟨w.heap.size, 2, none⟩ (.int .i64 (Lg : Int))).setCell ⟨w.heap.size, 3, none⟩ (.int .i64 (Sq : Int))).cell? ⟨w.heap.size, 3, none⟩ = some (.int .i64 (Sq : Int)) := World.cell?_setCell_same' _ _ _ (by simp [go_sem, z3])
          have r4 : (((((wr.setCell ⟨w.heap.size, 0, none⟩ (.int .i64 (G : Int))).setCell ⟨w.heap.size, 1, none⟩ (.int .i64 (N : Int))).setCell ⟨w.heap.size, 2, none⟩ (.int .i64 (Lg : Int))).setCell ⟨w.heap.size, 3, none⟩ (.int .i64 (Sq : Int))).setCell ⟨w.heap.size, 4, none⟩ (.slice q YN cc)).cell? ⟨w.heap.size, 4, none⟩ = some (.slice q YN cc) := World.cell?_setCell_same' _ _ _ (by simp [go_sem, z4])
          simp [results, Tryz.f13, go_sem, loadCells, loadCellsFrom, r0, r1, r2, r3, r4]
        · have FI : Firm w.heap.size wr ⟨q, YN, cc, (G : Int), (N : Int), (Lg : Int), (Sq : Int), ys⟩ := ⟨HRW.out, HEA.out⟩
          have FJ := FI.five hRS.out (by decide) (by decide) (.int .i64 (G : Int)) (.int .i64 (N : Int)) (.int .i64 (Lg : Int)) (.int .i64 (Sq : Int)) (.slice q YN cc)
          exact ⟨⟨q, YN, cc, (G : Int), (N : Int), (Lg : Int), (Sq : Int), ys⟩, rfl, by rw [XV.out]; rfl, FJ.held, FJ, (((((BB.out.setCell (p := ⟨w.heap.size, 0, none⟩) (Nat.le_refl _) _).setCell (p := ⟨w.heap.size, 1, none⟩) (Nat.le_refl _) _).setCell (p := ⟨w.heap.size, 2, none⟩) (Nat.le_refl _) _).setCell (p := ⟨w.heap.size, 3, none⟩) (Nat.le_refl _) _).setCell (p := ⟨w.heap.size, 4, none⟩) (Nat.le_refl _) _)⟩
      · have d1 : ¬ (YN : Int) < (KK : Int) := by omega
        have z0 : wr.cell? ⟨w.heap.size, 0, none⟩ = some (.int .i64 0) := cell_of_row _ _ _ _ _ _ hRS.out
        have y0 : wr.frozen? ⟨w.heap.size, 0, none⟩ = false := by simp [World.frozen?, hRS.out]
        have z1 : wr.cell? ⟨w.heap.size, 1, none⟩ = some (.int .i64 0) := cell_of_row _ _ _ _ _ _ hRS.out
        have y1 : wr.frozen? ⟨w.heap.size, 1, none⟩ = false := by simp [World.frozen?, hRS.out]
        have z2 : wr.cell? ⟨w.heap.size, 2, none⟩ = some (.int .i64 0) := cell_of_row _ _ _ _ _ _ hRS.out
        have y2 : wr.frozen? ⟨w.heap.size, 2, none⟩ = false := by simp [World.frozen?, hRS.out]
        have z3 : wr.cell? ⟨w.heap.size, 3, none⟩ = some (.int .i64 0) := cell_of_row _ _ _ _ _ _ hRS.out
        have y3 : wr.frozen? ⟨w.heap.size, 3, none⟩ = false := by simp [World.frozen?, hRS.out]
        have z4 : wr.cell? ⟨w.heap.size, 4, none⟩ = some (.slice none 0 0) := cell_of_row _ _ _ _ _ _ hRS.out
        have y4 : wr.frozen? ⟨w.heap.size, 4, none⟩ = false := by simp [World.frozen?, hRS.out]
        go_wp2
        refine ⟨rfl, .agg #[.int .i64 (G : Int), .int .i64 (N : Int), .int .i64 (Lg : Int), .int .i64 (Sq : Int), .slice q YN cc], ?_, ?_⟩
        · have r0 : (wr.setCell ⟨w.heap.size, 0, none⟩ (.int .i64 (G : Int))).cell? ⟨w.heap.size, 0, none⟩ = some (.int .i64 (G : Int)) := World.cell?_setCell_same' _ _ _ (by simp [go_sem, z0])
          have r1 : ((wr.setCell ⟨w.heap.size, 0, none⟩ (.int .i64 (G : Int))).setCell ⟨w.heap.size, 1, none⟩ (.int .i64 (N : Int))).cell? ⟨w.heap.size, 1, none⟩ = some (.int .i64 (N : Int)) := World.cell?_setCell_same' _ _ _ (by simp [go_sem, z1])
          have r2 : (((wr.setCell ⟨w.heap.size, 0, none⟩ (.int .i64 (G : Int))).setCell ⟨w.heap.size, 1, none⟩ (.int .i64 (N : Int))).setCell ⟨w.heap.size, 2, none⟩ (.int .i64 (Lg : Int))).cell? ⟨w.heap.size, 2, none⟩ = some (.int .i64 (Lg : Int)) := World.cell?_setCell_same' _ _ _ (by simp [go_sem, z2])
          have r3 : ((((wr.setCell ⟨w.heap.size, 0, none⟩ (.int .i64 (G : Int))).setCell ⟨w.heap.size, 1, none⟩ (.int .i64 (N : Int))).setCell ⟨w.heap.size, 2, none⟩ (.int .i64 (Lg : Int))).setCell ⟨w.heap.size, 3, none⟩ (.int .i64 (Sq : Int))).cell? ⟨w.heap.size, 3, none⟩ = some (.int .i64 (Sq : Int)) := World.cell?_setCell_same' _ _ _ (by simp [go_sem, z3])
          have r4 : (((((wr.setCell ⟨w.heap.size, 0, none⟩ (.int .i64 (G : Int))).setCell ⟨w.heap.size, 1, none⟩ (.int .i64 (N : Int))).setCell ⟨w.heap.size, 2, none⟩ (.int .i64 (Lg : Int))).setCell ⟨w.heap.size, 3, none⟩ (.int .i64 (Sq : Int))).setCell ⟨w.heap.size, 4, none⟩ (.slice q YN cc)).cell? ⟨w.heap.size, 4, none⟩ = some (.slice q YN cc) := World.cell?_setCell_same' _ _ _ (by simp [go_sem, z4])
          simp [results, Tryz.f13, go_sem, loadCells, loadCellsFrom, r0, r1, r2, r3, r4]
        · have FI : Firm w.heap.size wr ⟨q, YN, cc, (G : Int), (N : Int), (Lg : Int), (Sq : Int), ys⟩ := ⟨HRW.out, HEA.out⟩
          have FJ := FI.five hRS.out (by decide) (by decide) (.int .i64 (G : Int)) (.int .i64 (N : Int)) (.int .i64 (Lg : Int)) (.int .i64 (Sq : Int)) (.slice q YN cc)
          exact ⟨⟨q, YN, cc, (G : Int), (N : Int), (Lg : Int), (Sq : Int), ys⟩, rfl, by rw [XV.out]; rfl, FJ.held, FJ, (((((BB.out.setCell (p := ⟨w.heap.size, 0, none⟩) (Nat.le_refl _) _).setCell (p := ⟨w.heap.size, 1, none⟩) (Nat.le_refl _) _).setCell (p := ⟨w.heap.size, 2, none⟩) (Nat.le_refl _) _).setCell (p := ⟨w.heap.size, 3, none⟩) (Nat.le_refl _) _).setCell (p := ⟨w.heap.size, 4, none⟩) (Nat.le_refl _) _)⟩
end Go.Proofs.YthaiodajfmbeaaaGreat
