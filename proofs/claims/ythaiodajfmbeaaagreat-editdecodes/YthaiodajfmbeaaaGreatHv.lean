/- The walks of reader's ahead and goOn. -/
import Derived.Test.YthaiodajfmbeaaaGreatHs
import Derived.Test.YthaiodajfmbeaaaGreatTw
namespace Go.Proofs.YthaiodajfmbeaaaGreat
open Go.RowKit
open Ed (Nt)
variable {F : Nat → Prop}

/-- A reader in memory: its block, what is left. -/
structure Rd (F : Nat → Prop) (w : World) (b : Nat) (ao : Option Addr) (n c : Nat) (l : List UInt8) : Prop where
  row : w.heap[b]? = some (.cells #[.slice ao n c] 68)
  src : Src w ao n c l
  far : ∀ ad, ao = some ad → F ad.block
  free : ¬ F b
theorem Rd.cell {w : World} {b : Nat} {ao : Option Addr} {n c : Nat} {l : List UInt8} (h : Rd F w b ao n c l) : w.cell? ⟨b, 0, none⟩ = some (.slice ao n c) := by
  rw [cell_of_row _ _ _ _ _ _ h.row]; rfl
theorem Rd.lt {w : World} {b : Nat} {ao : Option Addr} {n c : Nat} {l : List UInt8} (h : Rd F w b ao n c l) : b < w.heap.size := (Array.getElem?_eq_some_iff.1 h.row).1
theorem Rd.below {w w' : World} {b : Nat} {ao : Option Addr} {n c : Nat} {l : List UInt8} (h : Rd F w b ao n c l) (hb : Below w.heap.size w w') : Rd F w' b ao n c l := ⟨(hb.block _ h.lt).trans h.row, h.src.below hb, h.far, h.free⟩
/-- The reader goes on by k bytes. -/
theorem Rd.on {w : World} {b : Nat} {ao : Option Addr} {n c : Nat} {l : List UInt8} (h : Rd F w b ao n c l) {a2 : Option Addr} {n2 c2 : Nat} {l2 : List UInt8} (hs : Src w a2 n2 c2 l2) (hf : ∀ ad, a2 = some ad → F ad.block) : Rd F (w.setCell ⟨b, 0, none⟩ (.slice a2 n2 c2)) b a2 n2 c2 l2 :=
  ⟨set_row h.row 0 _, hs.farB (b := b) (fun ad h1 (e : ad.block = b) => h.free (by rw [← e]; exact hf ad h1)) (fun g hg => Below.heap_setCell _ _ _ g hg), hf, h.free⟩
set_option maxHeartbeats 1000000 in
set_option maxRecDepth 100000 in
theorem ahead_any (b : Nat) (ao : Option Addr) (n c : Nat) (l : List UInt8) (k : Nat) (w : World) (h : Rd F w b ao n c l) (hn : n ≤ 140737488355328) (hk : k ≤ 1000) :
    Calls Tryz.prog 53 #[.pointer (some ⟨b, 0, none⟩), .int .i64 (k : Int)] w fun e w' => e = .returned (.slice ao (min k n) c) ∧ Below w.heap.size w w' := by
  have hc := h.cell
  have hcap := h.src.cap
  have hnil := h.src.nil
  clear h
  have h0 : (0 : Int) ≤ (n : Int) := by omega
  have h0k : (0 : Int) ≤ (k : Int) := by omega
  cases ao with
  | none =>
    obtain ⟨rfl, rfl⟩ := hnil rfl
    rcases Nat.eq_zero_or_pos k with rfl | hp
    · go_enter Tryz.func53, Tryz.ntmps53
      go_wp2
      go_region
      all_goals go_wp2
      all_goals go_ret
      all_goals exact ⟨rfl, by first | exact (Below.refl _ _).drew | exact Below.refl _ _⟩
    · go_enter Tryz.func53, Tryz.ntmps53
      go_wp2
      go_region
      all_goals go_wp2
      all_goals go_ret
      all_goals exact ⟨congrArg (fun x => Ending.returned (.slice none x 0)) (show (min (k : Int) 0).toNat = min k 0 by omega), by first | exact (Below.refl _ _).drew | exact Below.refl _ _⟩
  | some ad =>
    by_cases hkn : k < n
    · rw [Nat.min_eq_left (by omega)]
      have h1 : (k : Int) < (n : Int) := by omega
      have h2 : ¬ (n : Int) < (k : Int) := by omega
      have h3 : (k : Int) ≤ (c : Int) := by omega
      go_enter Tryz.func53, Tryz.ntmps53
      go_wp2
      go_region
      all_goals go_wp2
      all_goals go_ret
      all_goals exact ⟨congrArg (fun x => Ending.returned (.slice (some ad) x c)) (show (min (k : Int) (n : Int)).toNat = k by omega), by first | exact (Below.refl _ _).drew | exact Below.refl _ _⟩
    · rw [Nat.min_eq_right (by omega)]
      have h2 : ¬ (k : Int) < (n : Int) := by omega
      have h3 : (n : Int) ≤ (c : Int) := by omega
      go_enter Tryz.func53, Tryz.ntmps53
      go_wp2
      go_region
      all_goals go_wp2
      all_goals go_ret
      all_goals exact ⟨congrArg (fun x => Ending.returned (.slice (some ad) x c)) (show (min (k : Int) (n : Int)).toNat = n by omega), by first | exact (Below.refl _ _).drew | exact Below.refl _ _⟩
/-- The block b. -/
def AtB (b : Nat) (g : Nat) : Prop := g = b
/-- The reader stands at l. -/
def Went (F : Nat → Prop) (w : World) (b : Nat) (l : List UInt8) (w' : World) : Prop := Kept (AtB b) w w' ∧ ∃ a2 c2, Rd F w' b a2 l.length c2 l
theorem went_of {w : World} {b : Nat} {ao : Option Addr} {n c : Nat} {l : List UInt8} (h : Rd F w b ao n c l) {a2 : Option Addr} {m c2 : Nat} {l2 : List UInt8} (hs : Src w a2 m c2 l2) (hf : ∀ ad, a2 = some ad → F ad.block) : Went F w b l2 (w.setCell ⟨b, 0, none⟩ (.slice a2 m c2)) := by
  have e := hs.len
  subst e
  exact ⟨(Kept.refl _ _).setCell (p := ⟨b, 0, none⟩) (.inl (show AtB b b from rfl)) _, a2, c2, h.on hs hf⟩
theorem add_block (ad : Addr) (k : Nat) : (ad.add k).block = ad.block := by
  unfold Addr.add
  split <;> rfl
theorem Went.next {w w1 w2 : World} {b : Nat} {l : List UInt8} (h : Went F w b l w1) (hb : Below w1.heap.size w1 w2) : Went F w b l w2 := by
  obtain ⟨h1, a2, c2, h2⟩ := h
  exact ⟨h1.trans (Kept.of_below hb), a2, c2, h2.below hb⟩
theorem Went.after {w w1 w2 : World} {b : Nat} {l : List UInt8} (hb : Below w.heap.size w w1) (h : Went F w1 b l w2) : Went F w b l w2 := ⟨(Kept.of_below hb).trans h.1, h.2⟩
set_option maxHeartbeats 1000000 in
set_option maxRecDepth 100000 in
theorem goOn_any (b : Nat) (ao : Option Addr) (n c : Nat) (l : List UInt8) (k : Nat) (E : Int) (w : World) (h : Rd F w b ao n c l) (hn : n ≤ 140737488355328) (hk : k ≤ n) :
    Calls Tryz.prog 55 #[.pointer (some ⟨b, 0, none⟩), .int .i64 (k : Int), .int .i64 E] w fun e w' => e = .returned (.tuple #[]) ∧ Went F w b (l.drop (if E = 0 then k else n)) w' := by
  have H := keep h
  have hc := h.cell
  have hfz : w.frozen? ⟨b, 0, none⟩ = false := by simp [World.frozen?, h.row]
  have hcap := h.src.cap
  have hnil := h.src.nil
  clear h
  have h0 : (0 : Int) ≤ (n : Int) := by omega
  have h0k : (0 : Int) ≤ (k : Int) := by omega
  obtain ⟨G, hG⟩ : ∃ G, (l.drop (if E = 0 then k else n)) = G := ⟨_, rfl⟩
  rw [hG]
  have HG := keep hG
  clear hG
  by_cases hE : E = 0
  · have T1 := HG.out
    rw [if_pos hE] at T1
    have HT := keep T1
    clear T1 HG
    subst hE
    cases ao with
    | none =>
      obtain ⟨rfl, rfl⟩ := hnil rfl
      obtain rfl : k = 0 := by omega
      go_enter Tryz.func55, Tryz.ntmps55
      go_wp2
      go_end0
      exact ⟨rfl, went_of H.out (by rw [← HT.out]; exact H.out.src) (fun _ h => by cases h)⟩
    | some ad =>
      have hf := keep (H.out.far ad rfl)
      by_cases hkc : k = c
      · have T := keep (H.out.src.tail0 k hkc)
        obtain rfl : n = c := by omega
        subst hkc
        go_enter Tryz.func55, Tryz.ntmps55
        go_wp2
        go_end0
        exact ⟨rfl, went_of H.out (by rw [← HT.out]; exact T.out) (fun x h => by cases h; exact hf.out)⟩
      · have T := keep (H.out.src.tail k hk)
        have hkc2 : (k : Int) ≤ (n : Int) := by omega
        go_enter Tryz.func55, Tryz.ntmps55
        go_wp2
        go_end0
        exact ⟨rfl, went_of H.out (by rw [← HT.out]; exact T.out) (fun x h => by cases h; rw [add_block]; exact hf.out)⟩
  · have T1 := HG.out
    rw [if_neg hE] at T1
    have HT := keep T1
    clear T1 HG
    cases ao with
    | none =>
      obtain ⟨rfl, rfl⟩ := hnil rfl
      go_enter Tryz.func55, Tryz.ntmps55
      go_wp2
      go_end0
      exact ⟨rfl, went_of H.out (by rw [← HT.out]; exact H.out.src) (fun _ h => by cases h)⟩
    | some ad =>
      have hf := keep (H.out.far ad rfl)
      by_cases hkc : n = c
      · have T := keep (H.out.src.tail0 n hkc)
        subst hkc
        go_enter Tryz.func55, Tryz.ntmps55
        go_wp2
        go_end0
        exact ⟨rfl, went_of H.out (by rw [← HT.out]; exact T.out) (fun x h => by cases h; exact hf.out)⟩
      · have T := keep (H.out.src.tail n (Nat.le_refl _))
        have hnn : n - n = 0 := by omega
        go_enter Tryz.func55, Tryz.ntmps55
        go_wp2
        go_end0
        exact ⟨rfl, went_of H.out (by rw [← HT.out]; have := T.out; rw [hnn] at this; exact this) (fun x h => by cases h; rw [add_block]; exact hf.out)⟩
/-- A number read, and what is left. -/
def Ed.rdN (l : List UInt8) : Nat := nOf (l.take 9)
def Ed.rdL (l : List UInt8) : List UInt8 := l.drop (if eOf (l.take 9) = 0 then (l.take 9).length - (rOf (l.take 9)).length else l.length)
set_option maxHeartbeats 1000000 in
set_option maxRecDepth 100000 in
theorem rnum_any (b : Nat) (ao : Option Addr) (n c : Nat) (l : List UInt8) (w : World) (h : Rd F w b ao n c l) (hn : n ≤ 140737488355328) :
    Calls Tryz.prog 30 #[.pointer (some ⟨b, 0, none⟩)] w fun e w' => e = .returned (.int .i64 (Ed.rdN l : Nat)) ∧ Went F w b (Ed.rdL l) w' := by
  have H := keep h
  have hll := h.src.len
  have ht : l.take (min 9 n) = l.take 9 := by
    rcases Nat.le_total 9 n with h9 | h9
    · rw [Nat.min_eq_left h9]
    · rw [Nat.min_eq_right h9, List.take_of_length_le (by omega), List.take_of_length_le (by omega)]
  have hq : (l.take 9).length = min 9 n := by rw [List.length_take, hll]
  have HS := keep (show Src w ao (min 9 n) c (l.take 9) by have := h.src.head (min 9 n) (by omega); rwa [ht] at this)
  have hr : (rOf (l.take 9)).length ≤ min 9 n := by
    unfold rOf
    cases hx : takeNum (l.take 9) with
    | none => simp
    | some p =>
      obtain ⟨x, r⟩ := p
      have := congrArg List.length (takeNum_some hx).2
      rw [List.length_append, hq] at this
      simp
      omega
  have KA := keep (ahead_any b ao n c l 9 w h hn (by decide))
  have HQ := keep hq
  clear h ht hq
  obtain ⟨q, hq⟩ : ∃ q, min 9 n = q := ⟨_, rfl⟩
  rw [hq] at KA HS HQ hr
  have hqn : q ≤ n := by omega
  clear hq
  obtain ⟨t, hT⟩ : ∃ t, (rOf (l.take 9)).length = t := ⟨_, rfl⟩
  have HT := keep hT
  rw [hT] at hr
  clear hT
  go_enter Tryz.func30, Tryz.ntmps30
  go_wp2_with fail
  go_fit KA.out
  rintro e w1 ⟨rfl, hb1⟩
  have b1 := keep hb1
  clear hb1 KA
  go_wp2_with fail
  go_fit (takeNum_own ao q c (l.take 9) w1 (by omega) (HS.out.below b1.out))
  rintro e w2 ⟨a2, c2, rfl, _, _, hb2⟩
  rw [HT.out]
  have b2 := keep (b1.out.trans (hb2.mono b1.out.size))
  clear hb2
  have es : (q : Int) - (t : Int) = ((q - t : Nat) : Int) := by omega
  go_wp2_with fail
  go_fit (goOn_any b ao n c l (q - t) (eOf (l.take 9)) w2 (H.out.below b2.out) hn (by omega))
  rintro e w3 ⟨rfl, hw3⟩
  have W3 := keep (hw3.after b2.out)
  clear hw3
  go_wp2
  go_ret
  exact ⟨rfl, by unfold Ed.rdL; rw [HQ.out, HT.out, hll]; exact W3.out⟩
/-- A text taken: what it is, what is left, the error. -/
def Ed.tS (l : List UInt8) (most : Int) : List UInt8 := ((txt l most).map (·.1)).getD []
def Ed.tR (l : List UInt8) (most : Int) : List UInt8 := ((txt l most).map (·.2)).getD []
def Ed.tE (l : List UInt8) (most : Int) : Int := if (txt l most).isSome then 0 else 2
theorem takeText_ed (ao : Option Addr) (m c : Nat) (l : List UInt8) (most : Int) (w : World) (hm : m ≤ 140737488355328) (hs : Src w ao m c l) :
    Calls Tryz.prog 56 #[.slice ao m c, .int .i64 most] w fun e w' => ∃ a2 c2, e = .returned (.tuple #[.string ⟨(Ed.tS l most).toArray⟩, .slice a2 (Ed.tR l most).length c2, .int .i64 (Ed.tE l most)]) ∧ Below w.heap.size w w' :=
  (takeTextO_any ao m c l most w hm hs).mono fun e w' h => by
    rcases h with ⟨S, R, a2, c2, ht, rfl, _, _, hb⟩ | ⟨ht, rfl, hb⟩
    · exact ⟨a2, c2, by simp [Ed.tS, Ed.tR, Ed.tE, ht], hb⟩
    · exact ⟨none, 0, by simp [Ed.tS, Ed.tR, Ed.tE, ht], hb⟩
theorem Ed.tR_len (l : List UInt8) (most : Int) : (Ed.tR l most).length ≤ l.length := by
  unfold Ed.tR txt
  cases hx : takeNum l with
  | none => simp
  | some p =>
    obtain ⟨x, r⟩ := p
    have := congrArg List.length (takeNum_some hx).2
    rw [List.length_append] at this
    simp only
    split
    · simp
      omega
    · simp
def Ed.rdS (l : List UInt8) : List UInt8 := Ed.tS (l.take 73) 64
def Ed.rdT (l : List UInt8) : List UInt8 := l.drop (if Ed.tE (l.take 73) 64 = 0 then (l.take 73).length - (Ed.tR (l.take 73) 64).length else l.length)
set_option maxHeartbeats 1000000 in
set_option maxRecDepth 100000 in
theorem rtext_any (b : Nat) (ao : Option Addr) (n c : Nat) (l : List UInt8) (w : World) (h : Rd F w b ao n c l) (hn : n ≤ 140737488355328) :
    Calls Tryz.prog 31 #[.pointer (some ⟨b, 0, none⟩)] w fun e w' => ∃ g cap, e = .returned (.slice (some ⟨g, 0, none⟩) (Ed.rdS l).length cap) ∧ w.heap.size ≤ g ∧ In5 w' (some ⟨g, 0, none⟩) ∧ Src w' (some ⟨g, 0, none⟩) (Ed.rdS l).length cap (Ed.rdS l) ∧ Went F w b (Ed.rdT l) w' := by
  have H := keep h
  have hll := h.src.len
  have ht : l.take (min 73 n) = l.take 73 := by
    rcases Nat.le_total 73 n with h9 | h9
    · rw [Nat.min_eq_left h9]
    · rw [Nat.min_eq_right h9, List.take_of_length_le (by omega), List.take_of_length_le (by omega)]
  have hq : (l.take 73).length = min 73 n := by rw [List.length_take, hll]
  have HS := keep (show Src w ao (min 73 n) c (l.take 73) by have := h.src.head (min 73 n) (by omega); rwa [ht] at this)
  have hr : (Ed.tR (l.take 73) 64).length ≤ min 73 n := by rw [← hq]; exact Ed.tR_len _ _
  have KA := keep (ahead_any b ao n c l 73 w h hn (by decide))
  have HQ := keep hq
  clear h ht hq
  obtain ⟨q, hq⟩ : ∃ q, min 73 n = q := ⟨_, rfl⟩
  rw [hq] at KA HS HQ hr
  have hqn : q ≤ n := by omega
  clear hq
  obtain ⟨t, hT⟩ : ∃ t, (Ed.tR (l.take 73) 64).length = t := ⟨_, rfl⟩
  have HT := keep hT
  rw [hT] at hr
  clear hT
  obtain ⟨S, hS⟩ : ∃ S, Ed.rdS l = S := ⟨_, rfl⟩
  rw [hS]
  have hS2 := keep (show Ed.tS (l.take 73) 64 = S from hS)
  clear hS
  obtain ⟨E, hE⟩ : ∃ E, Ed.tE (l.take 73) 64 = E := ⟨_, rfl⟩
  have HE := keep hE
  clear hE
  go_enter Tryz.func31, Tryz.ntmps31
  go_wp2_with fail
  go_fit KA.out
  rintro e w1 ⟨rfl, hb1⟩
  have b1 := keep hb1
  clear hb1 KA
  go_wp2_with fail
  go_fit (takeText_ed ao q c (l.take 73) 64 w1 (by omega) (HS.out.below b1.out))
  rintro e w2 ⟨a2, c2, rfl, hb2⟩
  rw [HT.out, hS2.out, HE.out]
  have b2 := keep (b1.out.trans (hb2.mono b1.out.size))
  clear hb2
  have es : (q : Int) - (t : Int) = ((q - t : Nat) : Int) := by omega
  go_wp2_with fail
  go_fit (goOn_any b ao n c l (q - t) E w2 (H.out.below b2.out) hn (by omega))
  rintro e w3 ⟨rfl, hw3⟩
  have W3 := keep (hw3.after b2.out)
  clear hw3
  have cv := conv_str S S.length rfl w3
  go_wp2
  go_ret
  refine ⟨w3.heap.size, grownCap w3 S.length 0 5, rfl, W3.out.1.size, fun ad h => ?_, Src.converted w3 S S.length rfl, ?_⟩
  · cases h
    exact ⟨_, _, Lib.bytesWorld_at_new w3 5 ⟨S.toArray⟩⟩
  · unfold Ed.rdT
    rw [HQ.out, HT.out, hll, HE.out]
    exact W3.out.next (below_bytesWorld w3 ⟨S.toArray⟩)
end Go.Proofs.YthaiodajfmbeaaaGreat
