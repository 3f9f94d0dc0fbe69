/- The walk of the statement that a code is made of two hashes. -/
import Derived.Test.YtjjpfckmbjgfbaaDoorH
import Derived.Lib.AppendStr
import Derived.Lib.ConvBytes
namespace Go.Proofs.YtjjpfckmbjgfbaaDoor
open Go.RowKit
attribute [local go_sem] u8_xor

/-- The same where a guard stands ahead of it, and says yes. -/
theorem wpList_append_own_string_if {P : Program} {w : World} {ops : Array Oper} {rest : List Oper} {o : Oper} {a : Act} {Q : Exit → Act → World → Prop} (hw : Region.wanted o (yielded ops a.tmps) = true) (sl x : Operand) (t u : TypeId)
    (ho : o.op = .call { callee := .builtin .append, args := #[sl, x], argTypes := #[t, u] })
    (base : Nat) (i : TypeInfo) (ht : P.underlying t = some (.slice 5)) (hu : P.underlying u = some .string) (hi : P.info? 5 = some i) (hz : i.zero = some (.int .u8 0))
    (hsize : i.size = 1) (hby : i.bytes = 1)
    (v : Value) (n : Nat) (k l : List UInt8) (m : Nat) (hs : a.eval sl = v) (hown : w.ownsRow base 5 1 v n (bv k)) (hx : a.eval x = .string ⟨l.toArray⟩) (hl : l.length = m)
    (hb : n + m ≤ 140737488355328) (hbase : base ≤ w.heap.size)
    (h : ∀ v' w', w'.ownsRow base 5 1 v' (n + m) (bv (k ++ l)) → w.grownBy w' v.ownBlock → wpList P ops Q rest (a.put o.dst v') w') : wpList P ops Q (o :: rest) a w := by
  subst hl
  refine BigFrame.wpList_want hw fun K hK => ?_
  have hsz : (⟨l.toArray⟩ : ByteArray).size = l.length := rfl
  obtain ⟨v', w', hrun, h1, h2, _⟩ := Lib.run_append_own_string (P := P) w base t u o.type 5 i ht hu hi hz hsize hby v n (bv k) hown ⟨l.toArray⟩ (by rw [hsz]; unfold maxLen; omega) (by rw [hsz]; omega) hbase
  unfold Oper.wp
  simp [execOp, ho, resolve, invoke, builtin, hs, hx, hrun, Result.andThen]
  exact hK _ _ (h v' w' (by rw [bv_append]; exact h1) h2)
theorem Src.converted (w : World) (l : List UInt8) (m : Nat) (hm : l.length = m) : Src (Lib.bytesWorld w 5 ⟨l.toArray⟩) (some ⟨w.heap.size, 0, none⟩) m (grownCap w m 0 5) l := by
  subst hm
  refine Src.mk_bytes rfl (grownCap_ge _ _ _ _) (fun i hi => ?_)
  have := Lib.bytesWorld_cell w 5 ⟨l.toArray⟩ i hi
  rw [Nat.zero_add, this]
  rfl
theorem Src.of_own {w : World} {base n : Nat} {v : Value} {l : List UInt8} (h : w.ownsRow base 5 1 v n (bv l)) : ∃ ao c, v = .slice ao n c ∧ Src w ao n c l ∧ c ≤ maxLen := by
  have hl : l.length = n := by have := h.1; rw [bv_length] at this; omega
  rcases h.2 with ⟨rfl, h0⟩ | ⟨g, cap, cur, rfl, _, _, _, hm, _⟩
  · subst h0
    have : l = [] := List.length_eq_zero_iff.1 hl
    subst this
    exact ⟨none, 0, rfl, Src.empty (fun _ => rfl), Nat.zero_le _⟩
  · exact ⟨_, _, rfl, Src.owns h, hm⟩
theorem conv_str (L : List UInt8) (m : Nat) (hm : L.length = m) (u : World) : (convert 9 22 (.string ⟨L.toArray⟩)).run Tryd.prog u = .ok (.slice (some ⟨u.heap.size, 0, none⟩) m (grownCap u m 0 5)) (Lib.bytesWorld u 5 ⟨L.toArray⟩) := by
  subst hm
  exact Lib.run_convert_string_bytes (P := Tryd.prog) u 9 22 5 ⟨L.toArray⟩ Tryd.underlying9 Tryd.underlying22 Tryd.underlying5
theorem below_bytesWorld (w : World) (s : ByteArray) : Below w.heap.size w (Lib.bytesWorld w 5 s) :=
  ⟨rfl, rfl, rfl, by rw [Lib.bytesWorld_size]; omega, fun k hk => Lib.bytesWorld_at_old w 5 s k hk⟩
theorem alloc_size (w : World) (o : Obj) : (w.alloc o).heap.size = w.heap.size + 1 := by show (w.heap.push o).size = _; simp
theorem le_alloc {w : World} {B : Nat} (h : B ≤ w.heap.size) (o : Obj) : B ≤ (w.alloc o).heap.size := by rw [alloc_size]; omega
theorem own_below {w w' : World} {base n : Nat} {v : Value} {xs : List Value} (h : w.ownsRow base 5 1 v n xs) (hb : Below w.heap.size w w') : w'.ownsRow base 5 1 v n xs :=
  h.kept (row := none) ⟨hb.os, hb.tape, hb.output, hb.size, fun k hk _ => hb.block k hk⟩ (by cases hv : v.ownBlock <;> simp)
theorem own_apart {w : World} {base n : Nat} {vi vo : Value} {xs : List Value} (_h : w.ownsRow base 5 1 vo n xs) (hne : ∀ g, vi.ownBlock = some g → vo.ownBlock ≠ some g) : vo.ownBlock = none ∨ vo.ownBlock ≠ vi.ownBlock := by
  cases ho : vo.ownBlock with
  | none => exact .inl rfl
  | some g => exact .inr (fun e => hne g e.symm ho)
theorem own_apart' {w : World} {base n : Nat} {vi vo : Value} {xs : List Value} (_h : w.ownsRow base 5 1 vi n xs) (hne : ∀ g, vi.ownBlock = some g → vo.ownBlock ≠ some g) : vi.ownBlock = none ∨ vi.ownBlock ≠ vo.ownBlock := by
  cases hv : vi.ownBlock with
  | none => exact .inl rfl
  | some g => exact .inr (fun e => hne g hv e.symm)
theorem lies_apart {w : World} {base n m g cap : Nat} {vi vo : Value} {xs : List Value} (H : Nat) (h : w.ownsRow base 5 1 vo n xs) (hne : ∀ g, vi.ownBlock = some g → vo.ownBlock ≠ some g) (hat : vi.ownBlock = some g ∨ g = H) (hH : w.heap.size ≤ H) : ∀ g', (Value.slice (some ⟨g, 0, none⟩) m cap).ownBlock = some g' → vo.ownBlock ≠ some g' := by
  intro g' hg' ho
  cases hg'
  rcases hat with hat | hat
  · exact hne g hat ho
  · have := (h.lt g ho).2
    omega
theorem lies_apart' {w : World} {base n m g cap : Nat} {vi vo : Value} {xs : List Value} (H : Nat) (h : w.ownsRow base 5 1 vi n xs) (hne : ∀ g, vi.ownBlock = some g → vo.ownBlock ≠ some g) (hat : vo.ownBlock = some g ∨ g = H) (hH : w.heap.size ≤ H) : ∀ g', vi.ownBlock = some g' → (Value.slice (some ⟨g, 0, none⟩) m cap).ownBlock ≠ some g' := by
  intro g' hg' ho
  cases ho
  rcases hat with hat | hat
  · exact hne g hg' hat
  · have := (h.lt g hg').2
    omega
def upto (k : Nat → UInt8) (x : UInt8) (n : Nat) : List UInt8 := (List.range n).map fun j => k j ^^^ x
theorem upto_succ (k : Nat → UInt8) (x : UInt8) (n : Nat) : upto k x (n + 1) = upto k x n ++ [k n ^^^ x] := by simp [upto, List.range_succ]
theorem upto_len (k : Nat → UInt8) (x : UInt8) (n : Nat) : (upto k x n).length = n := by simp [upto]
theorem ownsRow_cap {w : World} {base n g cap : Nat} {xs : List Value} (h : w.ownsRow base 5 1 (.slice (some ⟨g, 0, none⟩) n cap) n xs) : cap ≤ maxLen := by
  rcases h.2 with ⟨h0, _⟩ | ⟨g', cap', cur, hv, _, _, _, hm, _⟩
  · cases h0
  · cases hv; exact hm

set_option maxHeartbeats 1000000 in
set_option maxRecDepth 100000 in
/-- Behind the key: from the loop on. K: the key's bytes, or its hash. -/
theorem made_walk (ao : Option Addr) (m c : Nat) (key : List UInt8) (ao2 : Option Addr) (m2 c2 : Nat) (l : List UInt8) (w : World) (hm : m ≤ 140737488351232) (hc : c ≤ maxLen) (hm2 : m2 ≤ 140737488351232) (hT : Tab w) (hF : Fst w) (hs : Src w ao m c key) (hs2 : Src w ao2 m2 c2 l) :
    Calls Tryd.prog 7 #[.slice ao m c, .slice ao2 m2 c2] w fun e w' => e = .returned (.bool true) ∧ Below w.heap.size w w' := by
  obtain ⟨i0, hi, hz0, hz1, hz2⟩ := info_parts info5
  have HT := keep hT
  have HF := keep hF
  have HS := keep hs
  have HS2 := keep hs2
  clear hT hF hs hs2
  obtain ⟨sm, hsm⟩ : ∃ sm, sum key = sm := ⟨_, rfl⟩
  have hsl : sm.length = 32 := by rw [← hsm]; exact sum_length key
  have hcv := conv_str sm 32 hsl
  have hkey := HS.out.len
  have hk1 : Hid (64 < m → kb key = fn sm) := fun h => by funext j; unfold kb; rw [if_pos (by omega), hsm]
  have hk2 : Hid (¬ 64 < m → kb key = fn key) := fun h => by funext j; unfold kb; rw [if_neg (by omega)]
  have HSM := keep hsm
  clear hsm
  have hmk : ∃ k : Nat → UInt8, kb key = k := ⟨_, rfl⟩
  obtain ⟨k, hkk⟩ := hmk
  rw [hkk] at hk1 hk2
  have HKK := keep hkk
  clear hkk
  by_cases h64 : 64 < m
  · have h64i : (64 : Int) < (m : Int) := by omega
    go_enter Tryd.func7, Tryd.ntmps7
    go_wp2_with (at_builtin; refine wpList_append_src rfl _ _ 22 rfl w.heap.size i0 _ Tryd.underlying22 hi hz0 hz1 hz2 rfl _ 0 [] rfl (World.ownsRow_made w #[] 0 (Nat.le_refl _) (by unfold maxLen; omega) rfl) _ m c key rfl (HS.out.below ((Below.refl _ _).alloc (Nat.le_refl _) _)) (by omega) (by simp) ?_; intro v1 w1 ho1 hg1; simp only [Nat.zero_add, List.nil_append] at ho1; obtain ⟨a1, c1, rfl, hs1, hc1⟩ := Src.of_own ho1; have HS1 := keep hs1; have hb1 := keep (((Below.refl w.heap.size w).alloc (Nat.le_refl _) _).grown hg1 (by simp) (fun j hj => by cases hj; exact Nat.le_refl _)); clear ho1 hg1 hs1)
    refine (sum_any a1 m c1 key w1 (by omega) hc1 (HT.out.below hb1.out) (HF.out.below hb1.out) HS1.out).mono ?_
    rintro e w2 ⟨rfl, hb2⟩
    rw [HSM.out]
    have hbk := keep ((hb1.out.trans (hb2.mono hb1.out.size)).trans ((below_bytesWorld w2 ⟨sm.toArray⟩).mono (Nat.le_trans hb1.out.size hb2.size)))
    have HK := keep (Src.converted w2 sm 32 hsl)
    have hkf : Hid (k = fn sm) := hk1.out h64
    have hmk : (32 : Nat) ≤ 64 := by omega
    clear hb2 hb1 HS1 hk1 hk2
    -- LONG
    go_wp2
    generalize Lib.bytesWorld w2 5 ⟨sm.toArray⟩ = wk at hbk HK ⊢
    generalize (some ⟨w2.heap.size, 0, none⟩ : Option Addr) = ak at HK ⊢
    generalize grownCap w2 32 0 5 = ck at HK ⊢
    go_loopw [6, 7, 8] (fun vi vo i wr => ∃ n : Nat, n ≤ 64 ∧ i = .int .i64 n ∧ Hid (wr.ownsRow wk.heap.size 5 1 vi n (bv (upto k 54 n))) ∧ Hid (wr.ownsRow wk.heap.size 5 1 vo n (bv (upto k 92 n))) ∧ Hid (∀ g, vi.ownBlock = some g → vo.ownBlock ≠ some g) ∧ Hid (Below wk.heap.size wk wr)) (fun _ _ i _ => 64 - (intOf i).toNat)
    case atStart => exact ⟨0, by omega, rfl, World.ownsRow_nil _ _ _ _, World.ownsRow_nil _ _ _ _, (fun g h => by cases h), Below.refl _ _⟩
    case round =>
      obtain ⟨n, hn, rfl, hoi, hoo, hne, hb⟩ := hrel
      by_cases hlt : n < 64
      · by_cases hx : n < 32
        · obtain ⟨bk, offk, hak, hbk2, hby⟩ := HK.out.form (by omega)
          have hcell : wr.cell? ⟨bk, offk + n, none⟩ = some (.int .u8 ((k n).toNat : Int)) := by
            rw [hb.out.cell (p := ⟨bk, offk + n, none⟩) hbk2, hby n hx, hkf.out]
          subst hak
          have x6 : bits .xor .u8 ((k n).toNat : Int) 54 = ((k n ^^^ 54).toNat : Int) := u8_xor (k n) 54
          have x5 : bits .xor .u8 ((k n).toNat : Int) 92 = ((k n ^^^ 92).toNat : Int) := u8_xor (k n) 92
          clear hby HK hbk HT HF HS HS2
          go_wp2_with (first
          | (at_builtin; (refine wpList_append_lies _ rfl (.tmp 32) (.tmp 35) 22 rfl wk.heap.size 5 i0 _ 1 1 Tryd.underlying22 hi hz0 hz1 hz2 rfl (by omega) _ n _ rfl (hoi.out.alloc _) ⟨wr.heap.size, 0, none⟩ 1 1 (bv [k n ^^^ 54]) rfl rfl (World.news_of_block (heap_alloc_new wr _)) (bv_one _) (by omega) (by unfold maxLen; omega) (by omega) (le_alloc hb.out.size _) (wr.heap.size + 1) (alloc_size _ _) ?_; intro g1 cap1 wa hoa hga hata _; have hoo1 := keep ((hoo.out.alloc _).kept hga (own_apart hoo.out hne.out)); have hb1 := keep ((hb.out.alloc hb.out.size _).grown hga (le_alloc hb.out.size _) (fun j hj => (hoi.out.lt j hj).1)); have hne1 := keep (lies_apart (m := n + 1) (cap := cap1) (wr.heap.size + 1) hoo.out hne.out hata (Nat.le_succ _)); have hoi1 := keep hoa; clear hoa hga hata))
          | (at_builtin; (refine wpList_append_lies _ rfl (.tmp 37) (.tmp 40) 22 rfl wk.heap.size 5 i0 _ 1 1 Tryd.underlying22 hi hz0 hz1 hz2 rfl (by omega) _ n _ rfl (hoo1.out.alloc _) ⟨wa.heap.size, 0, none⟩ 1 1 (bv [k n ^^^ 92]) rfl rfl (World.news_of_block (heap_alloc_new wa _)) (bv_one _) (by omega) (by unfold maxLen; omega) (by omega) (le_alloc hb1.out.size _) (wa.heap.size + 1) (alloc_size _ _) ?_; intro g2 cap2 wb hob hgb hatb _; have hoi2 := keep ((hoi1.out.alloc _).kept hgb (own_apart' hoi1.out hne1.out)); have hb2 := keep ((hb1.out.alloc hb1.out.size _).grown hgb (le_alloc hb1.out.size _) (fun j hj => (hoo1.out.lt j hj).1)); have hne2 := keep (lies_apart' (m := n + 1) (cap := cap2) (wa.heap.size + 1) hoi1.out hne1.out hatb (Nat.le_succ _)); have hoo2 := keep hob; clear hob hgb hatb)))
          have ho6 : Hid (wb.ownsRow wk.heap.size 5 1 (.slice (some ⟨g1, 0, none⟩) (n + 1) cap1) (n + 1) (bv (upto k 54 (n + 1)))) := by rw [upto_succ, bv_append]; exact hoi2.out
          have ho5 : Hid (wb.ownsRow wk.heap.size 5 1 (.slice (some ⟨g2, 0, none⟩) (n + 1) cap2) (n + 1) (bv (upto k 92 (n + 1)))) := by rw [upto_succ, bv_append]; exact hoo2.out
          clear hoi2 hoo2 hoi1 hoo1 hoi hoo hb1 hne1 hne hb
          go_wp2
          go_roundw
          case rel => exact ⟨n + 1, by omega, by go_num, ho6, ho5, hne2, hb2⟩
          case measure => simp [intOf]; omega
        · have hk0 : k n = 0 := by rw [hkf.out]; exact kb_zero sm n (by have := HK.out.len; omega)
          have e6 : Hid (k n ^^^ 54 = 54) := by rw [hk0]; rfl
          have e5 : Hid (k n ^^^ 92 = 92) := by rw [hk0]; rfl
          have x6 : bits .xor .u8 0 54 = 54 := by decide
          have x5 : bits .xor .u8 0 92 = 92 := by decide
          clear hk0 HK hbk HT HF HS HS2
          go_wp2_with (first
          | (at_builtin; (refine wpList_append_lies _ rfl (.tmp 32) (.tmp 35) 22 rfl wk.heap.size 5 i0 _ 1 1 Tryd.underlying22 hi hz0 hz1 hz2 rfl (by omega) _ n _ rfl (hoi.out.alloc _) ⟨wr.heap.size, 0, none⟩ 1 1 (bv [54]) rfl rfl (World.news_of_block (heap_alloc_new wr _)) (bv_one _) (by omega) (by unfold maxLen; omega) (by omega) (le_alloc hb.out.size _) (wr.heap.size + 1) (alloc_size _ _) ?_; intro g1 cap1 wa hoa hga hata _; have hoo1 := keep ((hoo.out.alloc _).kept hga (own_apart hoo.out hne.out)); have hb1 := keep ((hb.out.alloc hb.out.size _).grown hga (le_alloc hb.out.size _) (fun j hj => (hoi.out.lt j hj).1)); have hne1 := keep (lies_apart (m := n + 1) (cap := cap1) (wr.heap.size + 1) hoo.out hne.out hata (Nat.le_succ _)); have hoi1 := keep hoa; clear hoa hga hata))
          | (at_builtin; (refine wpList_append_lies _ rfl (.tmp 37) (.tmp 40) 22 rfl wk.heap.size 5 i0 _ 1 1 Tryd.underlying22 hi hz0 hz1 hz2 rfl (by omega) _ n _ rfl (hoo1.out.alloc _) ⟨wa.heap.size, 0, none⟩ 1 1 (bv [92]) rfl rfl (World.news_of_block (heap_alloc_new wa _)) (bv_one _) (by omega) (by unfold maxLen; omega) (by omega) (le_alloc hb1.out.size _) (wa.heap.size + 1) (alloc_size _ _) ?_; intro g2 cap2 wb hob hgb hatb _; have hoi2 := keep ((hoi1.out.alloc _).kept hgb (own_apart' hoi1.out hne1.out)); have hb2 := keep ((hb1.out.alloc hb1.out.size _).grown hgb (le_alloc hb1.out.size _) (fun j hj => (hoo1.out.lt j hj).1)); have hne2 := keep (lies_apart' (m := n + 1) (cap := cap2) (wa.heap.size + 1) hoi1.out hne1.out hatb (Nat.le_succ _)); have hoo2 := keep hob; clear hob hgb hatb)))
          have ho6 : Hid (wb.ownsRow wk.heap.size 5 1 (.slice (some ⟨g1, 0, none⟩) (n + 1) cap1) (n + 1) (bv (upto k 54 (n + 1)))) := by rw [upto_succ, e6.out, bv_append]; exact hoi2.out
          have ho5 : Hid (wb.ownsRow wk.heap.size 5 1 (.slice (some ⟨g2, 0, none⟩) (n + 1) cap2) (n + 1) (bv (upto k 92 (n + 1)))) := by rw [upto_succ, e5.out, bv_append]; exact hoo2.out
          clear hoi2 hoo2 hoi1 hoo1 hoi hoo hb1 hne1 hne hb
          go_wp2
          go_roundw
          case rel => exact ⟨n + 1, by omega, by go_num, ho6, ho5, hne2, hb2⟩
          case measure => simp [intOf]; omega
      · have hn2 : n = 64 := by omega
        subst hn2
        have hbw := keep (hbk.out.trans (hb.out.mono hbk.out.size))
        go_wp2_with (at_builtin; refine wpList_append_src rfl (.tmp 42) (.tmp 43) 22 rfl wk.heap.size i0 _ Tryd.underlying22 hi hz0 hz1 hz2 rfl _ 64 (upto k 54 64) rfl hoi.out _ m2 c2 l rfl (HS2.out.below hbw.out) (by omega) hb.out.size ?_; intro v1 wa hoa hga; have hoo1 := keep (hoo.out.kept hga (own_apart hoo.out hne.out)); have hb1 := keep (hb.out.grown hga hb.out.size (fun j hj => (hoi.out.lt j hj).1)); obtain ⟨a1, c1, rfl, hs1, hc1⟩ := Src.of_own hoa; have HS1 := keep hs1; clear hoa hga hs1)
        have hbw1 := keep (hbk.out.trans (hb1.out.mono hbk.out.size))
        refine (sum_any a1 (64 + m2) c1 _ wa (by omega) hc1 (HT.out.below hbw1.out) (HF.out.below hbw1.out) HS1.out).mono ?_
        rintro e w3 ⟨rfl, hb3⟩
        have hoo3 := keep (own_below hoo1.out hb3)
        have hb3' := keep (hb1.out.trans (hb3.mono hb1.out.size))
        have hbw3 := keep (hbk.out.trans (hb3'.out.mono hbk.out.size))
        clear hb3 hoo1 HS1
        obtain ⟨hh, hhh⟩ : ∃ hh, sum (upto k 54 64 ++ l) = hh := ⟨_, rfl⟩
        rw [hhh]
        have hhl : hh.length = 32 := by rw [← hhh]; exact sum_length _
        have hbs : (⟨hh.toArray⟩ : ByteArray).size = 32 := hhl
        have HMAC : Hid (mac key l = sum (upto k 92 64 ++ hh)) := by unfold mac; rw [HKK.out, ← hhh]; rfl
        clear hhh
        go_wp2_with fail
        refine (mac_any ao m c key ao2 m2 c2 l w3 (by omega) hc (by omega) (HT.out.below hbw3.out) (HF.out.below hbw3.out) (HS.out.below hbw3.out) (HS2.out.below hbw3.out)).mono ?_
        rintro e w4 ⟨rfl, hb4⟩
        rw [HMAC.out]
        have hoo4 := keep (own_below hoo3.out hb4)
        have hb4' := keep (hb3'.out.trans (hb4.mono hb3'.out.size))
        have hbw4 := keep (hbk.out.trans (hb4'.out.mono hbk.out.size))
        clear hb4 hoo3
        go_wp2_with (at_builtin; refine wpList_append_own_string_if (by rfl) (.tmp 53) (.tmp 54) 22 9 rfl wk.heap.size i0 Tryd.underlying22 Tryd.underlying9 hi hz0 hz1 hz2 _ 64 (upto k 92 64) hh 32 rfl hoo4.out rfl hhl (by omega) hb4'.out.size ?_; intro v5 w5 ho5 hg5; have hb5 := keep (hb4'.out.grown hg5 hb4'.out.size (fun j hj => (hoo4.out.lt j hj).1)); obtain ⟨a5, c5, rfl, hs5, hc5⟩ := Src.of_own ho5; have HS5 := keep hs5; clear ho5 hg5 hs5)
        have hbw5 := keep (hbk.out.trans (hb5.out.mono hbk.out.size))
        refine (sum_any a5 (64 + 32) c5 _ w5 (by omega) hc5 (HT.out.below hbw5.out) (HF.out.below hbw5.out) HS5.out).mono ?_
        rintro e w6 ⟨rfl, hb6⟩
        generalize sum (upto k 92 64 ++ hh) = fin
        clear HMAC HS5
        go_wp2
        go_ret
        exact ⟨by simp, hbw5.out.trans (hb6.mono hbw5.out.size)⟩
  · have h64i : ¬ (64 : Int) < (m : Int) := by omega
    have hkf : Hid (k = fn key) := hk2.out h64
    clear hk1 hk2 hcv
    go_enter Tryd.func7, Tryd.ntmps7
    go_wp2_with (at_builtin; refine wpList_append_src rfl _ _ 22 rfl w.heap.size i0 _ Tryd.underlying22 hi hz0 hz1 hz2 rfl _ 0 [] rfl (World.ownsRow_made w #[] 0 (Nat.le_refl _) (by unfold maxLen; omega) rfl) _ m c key rfl (HS.out.below ((Below.refl _ _).alloc (Nat.le_refl _) _)) (by omega) (by simp) ?_; intro v1 wk ho1 hg1; simp only [Nat.zero_add, List.nil_append] at ho1; obtain ⟨ak, ck, rfl, hs1, hc1⟩ := Src.of_own ho1; have HK := keep hs1; have hbk := keep (((Below.refl w.heap.size w).alloc (Nat.le_refl _) _).grown hg1 (by simp) (fun j hj => by cases hj; exact Nat.le_refl _)); clear ho1 hg1 hs1)
    go_loopw [6, 7, 8] (fun vi vo i wr => ∃ n : Nat, n ≤ 64 ∧ i = .int .i64 n ∧ Hid (wr.ownsRow wk.heap.size 5 1 vi n (bv (upto k 54 n))) ∧ Hid (wr.ownsRow wk.heap.size 5 1 vo n (bv (upto k 92 n))) ∧ Hid (∀ g, vi.ownBlock = some g → vo.ownBlock ≠ some g) ∧ Hid (Below wk.heap.size wk wr)) (fun _ _ i _ => 64 - (intOf i).toNat)
    case atStart => exact ⟨0, by omega, rfl, World.ownsRow_nil _ _ _ _, World.ownsRow_nil _ _ _ _, (fun g h => by cases h), Below.refl _ _⟩
    case round =>
      obtain ⟨n, hn, rfl, hoi, hoo, hne, hb⟩ := hrel
      by_cases hlt : n < 64
      · by_cases hx : n < m
        · obtain ⟨bk, offk, hak, hbk2, hby⟩ := HK.out.form (by omega)
          have hcell : wr.cell? ⟨bk, offk + n, none⟩ = some (.int .u8 ((k n).toNat : Int)) := by
            rw [hb.out.cell (p := ⟨bk, offk + n, none⟩) hbk2, hby n hx, hkf.out]
          subst hak
          have x6 : bits .xor .u8 ((k n).toNat : Int) 54 = ((k n ^^^ 54).toNat : Int) := u8_xor (k n) 54
          have x5 : bits .xor .u8 ((k n).toNat : Int) 92 = ((k n ^^^ 92).toNat : Int) := u8_xor (k n) 92
          clear hby HK hbk HT HF HS HS2
          go_wp2_with (first
          | (at_builtin; (refine wpList_append_lies _ rfl (.tmp 32) (.tmp 35) 22 rfl wk.heap.size 5 i0 _ 1 1 Tryd.underlying22 hi hz0 hz1 hz2 rfl (by omega) _ n _ rfl (hoi.out.alloc _) ⟨wr.heap.size, 0, none⟩ 1 1 (bv [k n ^^^ 54]) rfl rfl (World.news_of_block (heap_alloc_new wr _)) (bv_one _) (by omega) (by unfold maxLen; omega) (by omega) (le_alloc hb.out.size _) (wr.heap.size + 1) (alloc_size _ _) ?_; intro g1 cap1 wa hoa hga hata _; have hoo1 := keep ((hoo.out.alloc _).kept hga (own_apart hoo.out hne.out)); have hb1 := keep ((hb.out.alloc hb.out.size _).grown hga (le_alloc hb.out.size _) (fun j hj => (hoi.out.lt j hj).1)); have hne1 := keep (lies_apart (m := n + 1) (cap := cap1) (wr.heap.size + 1) hoo.out hne.out hata (Nat.le_succ _)); have hoi1 := keep hoa; clear hoa hga hata))
          | (at_builtin; (refine wpList_append_lies _ rfl (.tmp 37) (.tmp 40) 22 rfl wk.heap.size 5 i0 _ 1 1 Tryd.underlying22 hi hz0 hz1 hz2 rfl (by omega) _ n _ rfl (hoo1.out.alloc _) ⟨wa.heap.size, 0, none⟩ 1 1 (bv [k n ^^^ 92]) rfl rfl (World.news_of_block (heap_alloc_new wa _)) (bv_one _) (by omega) (by unfold maxLen; omega) (by omega) (le_alloc hb1.out.size _) (wa.heap.size + 1) (alloc_size _ _) ?_; intro g2 cap2 wb hob hgb hatb _; have hoi2 := keep ((hoi1.out.alloc _).kept hgb (own_apart' hoi1.out hne1.out)); have hb2 := keep ((hb1.out.alloc hb1.out.size _).grown hgb (le_alloc hb1.out.size _) (fun j hj => (hoo1.out.lt j hj).1)); have hne2 := keep (lies_apart' (m := n + 1) (cap := cap2) (wa.heap.size + 1) hoi1.out hne1.out hatb (Nat.le_succ _)); have hoo2 := keep hob; clear hob hgb hatb)))
          have ho6 : Hid (wb.ownsRow wk.heap.size 5 1 (.slice (some ⟨g1, 0, none⟩) (n + 1) cap1) (n + 1) (bv (upto k 54 (n + 1)))) := by rw [upto_succ, bv_append]; exact hoi2.out
          have ho5 : Hid (wb.ownsRow wk.heap.size 5 1 (.slice (some ⟨g2, 0, none⟩) (n + 1) cap2) (n + 1) (bv (upto k 92 (n + 1)))) := by rw [upto_succ, bv_append]; exact hoo2.out
          clear hoi2 hoo2 hoi1 hoo1 hoi hoo hb1 hne1 hne hb
          go_wp2
          go_roundw
          case rel => exact ⟨n + 1, by omega, by go_num, ho6, ho5, hne2, hb2⟩
          case measure => simp [intOf]; omega
        · have hk0 : k n = 0 := by rw [hkf.out]; exact kb_zero key n (by have := HK.out.len; omega)
          have e6 : Hid (k n ^^^ 54 = 54) := by rw [hk0]; rfl
          have e5 : Hid (k n ^^^ 92 = 92) := by rw [hk0]; rfl
          have x6 : bits .xor .u8 0 54 = 54 := by decide
          have x5 : bits .xor .u8 0 92 = 92 := by decide
          clear hk0 HK hbk HT HF HS HS2
          go_wp2_with (first
          | (at_builtin; (refine wpList_append_lies _ rfl (.tmp 32) (.tmp 35) 22 rfl wk.heap.size 5 i0 _ 1 1 Tryd.underlying22 hi hz0 hz1 hz2 rfl (by omega) _ n _ rfl (hoi.out.alloc _) ⟨wr.heap.size, 0, none⟩ 1 1 (bv [54]) rfl rfl (World.news_of_block (heap_alloc_new wr _)) (bv_one _) (by omega) (by unfold maxLen; omega) (by omega) (le_alloc hb.out.size _) (wr.heap.size + 1) (alloc_size _ _) ?_; intro g1 cap1 wa hoa hga hata _; have hoo1 := keep ((hoo.out.alloc _).kept hga (own_apart hoo.out hne.out)); have hb1 := keep ((hb.out.alloc hb.out.size _).grown hga (le_alloc hb.out.size _) (fun j hj => (hoi.out.lt j hj).1)); have hne1 := keep (lies_apart (m := n + 1) (cap := cap1) (wr.heap.size + 1) hoo.out hne.out hata (Nat.le_succ _)); have hoi1 := keep hoa; clear hoa hga hata))
          | (at_builtin; (refine wpList_append_lies _ rfl (.tmp 37) (.tmp 40) 22 rfl wk.heap.size 5 i0 _ 1 1 Tryd.underlying22 hi hz0 hz1 hz2 rfl (by omega) _ n _ rfl (hoo1.out.alloc _) ⟨wa.heap.size, 0, none⟩ 1 1 (bv [92]) rfl rfl (World.news_of_block (heap_alloc_new wa _)) (bv_one _) (by omega) (by unfold maxLen; omega) (by omega) (le_alloc hb1.out.size _) (wa.heap.size + 1) (alloc_size _ _) ?_; intro g2 cap2 wb hob hgb hatb _; have hoi2 := keep ((hoi1.out.alloc _).kept hgb (own_apart' hoi1.out hne1.out)); have hb2 := keep ((hb1.out.alloc hb1.out.size _).grown hgb (le_alloc hb1.out.size _) (fun j hj => (hoo1.out.lt j hj).1)); have hne2 := keep (lies_apart' (m := n + 1) (cap := cap2) (wa.heap.size + 1) hoi1.out hne1.out hatb (Nat.le_succ _)); have hoo2 := keep hob; clear hob hgb hatb)))
          have ho6 : Hid (wb.ownsRow wk.heap.size 5 1 (.slice (some ⟨g1, 0, none⟩) (n + 1) cap1) (n + 1) (bv (upto k 54 (n + 1)))) := by rw [upto_succ, e6.out, bv_append]; exact hoi2.out
          have ho5 : Hid (wb.ownsRow wk.heap.size 5 1 (.slice (some ⟨g2, 0, none⟩) (n + 1) cap2) (n + 1) (bv (upto k 92 (n + 1)))) := by rw [upto_succ, e5.out, bv_append]; exact hoo2.out
          clear hoi2 hoo2 hoi1 hoo1 hoi hoo hb1 hne1 hne hb
          go_wp2
          go_roundw
          case rel => exact ⟨n + 1, by omega, by go_num, ho6, ho5, hne2, hb2⟩
          case measure => simp [intOf]; omega
      · have hn2 : n = 64 := by omega
        subst hn2
        have hbw := keep (hbk.out.trans (hb.out.mono hbk.out.size))
        go_wp2_with (at_builtin; refine wpList_append_src rfl (.tmp 42) (.tmp 43) 22 rfl wk.heap.size i0 _ Tryd.underlying22 hi hz0 hz1 hz2 rfl _ 64 (upto k 54 64) rfl hoi.out _ m2 c2 l rfl (HS2.out.below hbw.out) (by omega) hb.out.size ?_; intro v1 wa hoa hga; have hoo1 := keep (hoo.out.kept hga (own_apart hoo.out hne.out)); have hb1 := keep (hb.out.grown hga hb.out.size (fun j hj => (hoi.out.lt j hj).1)); obtain ⟨a1, c1, rfl, hs1, hc1⟩ := Src.of_own hoa; have HS1 := keep hs1; clear hoa hga hs1)
        have hbw1 := keep (hbk.out.trans (hb1.out.mono hbk.out.size))
        refine (sum_any a1 (64 + m2) c1 _ wa (by omega) hc1 (HT.out.below hbw1.out) (HF.out.below hbw1.out) HS1.out).mono ?_
        rintro e w3 ⟨rfl, hb3⟩
        have hoo3 := keep (own_below hoo1.out hb3)
        have hb3' := keep (hb1.out.trans (hb3.mono hb1.out.size))
        have hbw3 := keep (hbk.out.trans (hb3'.out.mono hbk.out.size))
        clear hb3 hoo1 HS1
        obtain ⟨hh, hhh⟩ : ∃ hh, sum (upto k 54 64 ++ l) = hh := ⟨_, rfl⟩
        rw [hhh]
        have hhl : hh.length = 32 := by rw [← hhh]; exact sum_length _
        have hbs : (⟨hh.toArray⟩ : ByteArray).size = 32 := hhl
        have HMAC : Hid (mac key l = sum (upto k 92 64 ++ hh)) := by unfold mac; rw [HKK.out, ← hhh]; rfl
        clear hhh
        go_wp2_with fail
        refine (mac_any ao m c key ao2 m2 c2 l w3 (by omega) hc (by omega) (HT.out.below hbw3.out) (HF.out.below hbw3.out) (HS.out.below hbw3.out) (HS2.out.below hbw3.out)).mono ?_
        rintro e w4 ⟨rfl, hb4⟩
        rw [HMAC.out]
        have hoo4 := keep (own_below hoo3.out hb4)
        have hb4' := keep (hb3'.out.trans (hb4.mono hb3'.out.size))
        have hbw4 := keep (hbk.out.trans (hb4'.out.mono hbk.out.size))
        clear hb4 hoo3
        go_wp2_with (at_builtin; refine wpList_append_own_string_if (by rfl) (.tmp 53) (.tmp 54) 22 9 rfl wk.heap.size i0 Tryd.underlying22 Tryd.underlying9 hi hz0 hz1 hz2 _ 64 (upto k 92 64) hh 32 rfl hoo4.out rfl hhl (by omega) hb4'.out.size ?_; intro v5 w5 ho5 hg5; have hb5 := keep (hb4'.out.grown hg5 hb4'.out.size (fun j hj => (hoo4.out.lt j hj).1)); obtain ⟨a5, c5, rfl, hs5, hc5⟩ := Src.of_own ho5; have HS5 := keep hs5; clear ho5 hg5 hs5)
        have hbw5 := keep (hbk.out.trans (hb5.out.mono hbk.out.size))
        refine (sum_any a5 (64 + 32) c5 _ w5 (by omega) hc5 (HT.out.below hbw5.out) (HF.out.below hbw5.out) HS5.out).mono ?_
        rintro e w6 ⟨rfl, hb6⟩
        generalize sum (upto k 92 64 ++ hh) = fin
        clear HMAC HS5
        go_wp2
        go_ret
        exact ⟨by simp, hbw5.out.trans (hb6.mono hbw5.out.size)⟩
end Go.Proofs.YtjjpfckmbjgfbaaDoor
