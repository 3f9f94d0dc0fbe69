/- The walk of the document's take. -/
import Derived.Test.YtdgfbbaddoghaaaDoorSxRb
namespace Go.Proofs.YtdgfbbaddoghaaaDoor.Sha
open Go.RowKit
attribute [local go_sem] U_add U_add' U_xor U_and U_or U_not byte_U byte_W shl24 shl16 shl8 shl24W shl16W shl8W shr3 shr10
attribute [local go_sem ↓] Go.wp_at_zero Go.wp_at_succ

theorem table_any (w : World) : Calls Tryd.prog 60 #[] w fun e w' => e = .returned (.slice (some ⟨w.heap.size, 0, none⟩) 64 64) ∧ w' = w.alloc (.cells (uv kt).toArray 75) := by
  go_enter Tryd.func60, Tryd.ntmps60
  go_wp2
  go_ret
  exact ⟨rfl, rfl⟩
/-- Eight words at the head of block g. -/
def At8 (w : World) (g : Nat) (s : St) : Prop := ∀ i, i < 8 → w.cell? ⟨g, i, none⟩ = some (.int .u32 (U (s.list.getD i 0)))
theorem At8.block {w : World} {g : Nat} {s : St} (h : At8 w g s) : g < w.heap.size := World.block_lt_of_cell? w _ (h 0 (by omega))
theorem At8.below {w w' : World} {g B : Nat} {s : St} (h : At8 w g s) (hb : Below B w w') (hg : g < B) : At8 w' g s := fun i hi => by
  rw [hb.cell (p := ⟨g, i, none⟩) hg]; exact h i hi
theorem At8.owns {w : World} {base g cap : Nat} {s : St} (h : w.ownsRow base 75 1 (.slice (some ⟨g, 0, none⟩) 8 cap) 8 (uv s.list)) : At8 w g s := fun i hi => own_cell h i hi
theorem At8.new (w : World) (s : St) : At8 (w.alloc (.cells (uv s.list).toArray 75)) w.heap.size s := fun i hi => by
  rw [cell_of_row _ _ _ _ _ _ (heap_alloc_new w _), List.getElem?_toArray, uv_at s.list i hi]

theorem add_take (s σ : St) (n : Nat) (h : n < 8) : (s.add σ).list.take (n + 1) = (s.add σ).list.take n ++ [s.list.getD n 0 + σ.list.getD n 0] := by
  rcases (show n = 0 ∨ n = 1 ∨ n = 2 ∨ n = 3 ∨ n = 4 ∨ n = 5 ∨ n = 6 ∨ n = 7 by omega) with h | h | h | h | h | h | h | h
  all_goals subst h
  all_goals rfl
theorem ownsRow_base {w : World} {base base' e n : Nat} {v : Value} {xs : List Value} (h : w.ownsRow base e 1 v n xs) (hb : base' ≤ base) : w.ownsRow base' e 1 v n xs := by
  refine ⟨h.1, ?_⟩
  rcases h.2 with h0 | ⟨g, cap, cur, hv, hg, rest⟩
  · exact .inl h0
  · exact .inr ⟨g, cap, cur, hv, Nat.le_trans hb hg, rest⟩

set_option maxHeartbeats 2000000 in
set_option maxRecDepth 100000 in
theorem rtake_any (s : St) (gs cs b off cap : Nat) (f : Nat → UInt8) (w : World) (hcap : 64 ≤ cap) (hc : Bytes w b off 64 f) (hs : At8 w gs s) :
    Calls Tryd.prog 52 #[.slice (some ⟨gs, 0, none⟩) 8 cs, .slice (some ⟨b, off, none⟩) 64 cap] w fun e w' => ∃ g cp, e = .returned (.slice (some ⟨g, 0, none⟩) 8 cp) ∧ w'.ownsRow w.heap.size 75 1 (.slice (some ⟨g, 0, none⟩) 8 cp) 8 (uv (tk s f).list) ∧ Below w.heap.size w w' := by
  obtain ⟨i0, hi, hz0, hz1, hz2⟩ := info_parts info29
  have HS := hs
  have hgs := hs.block
  clear hs
  have HS' : Hid (At8 w gs s) := HS
  clear HS
  go_enter Tryd.func52, Tryd.ntmps52
  go_wp2_with fail
  refine (rwords_any b off cap f _ hcap hc).mono ?_
  rintro e w1 ⟨gw, cw, rfl, how, hb1⟩
  have how' : Hid (w1.ownsRow w.heap.size 75 1 (.slice (some ⟨gw, 0, none⟩) 64 cw) 64 (uv (sch f 48))) := how
  have hb1' : Hid (Below w.heap.size w w1) := hb1
  clear how hb1 hc
  go_wp2_with fail
  refine (table_any w1).mono ?_
  rintro e w2 ⟨rfl, hw2⟩
  have hb2 : Hid (Below w1.heap.size w1 w2) := by rw [hw2]; exact (Below.refl _ _).alloc (Nat.le_refl _) _
  have hs2 : w2.heap.size = w1.heap.size + 1 := by rw [hw2]; simp
  have hk2 : Hid (∀ i, i < 64 → w2.cell? ⟨w1.heap.size, i, none⟩ = some (.int .u32 (U (kk i)))) := fun i hi => by
    rw [hw2, cell_of_row _ _ _ _ _ _ (heap_alloc_new w1 _), List.getElem?_toArray, uv_at kt i hi]; rfl
  have hs2' : Hid (w2.heap.size = w1.heap.size + 1) := hs2
  clear hw2 hs2
  have hgw := how'.out.lt gw rfl
  have hs8 : ∀ j u, (uv s.list)[j]? = some u → w2.cell? ((⟨gs, 0, none⟩ : Addr).add j) = some u := fun j u hu => by
    have hj : j < s.list.length := by have := (List.getElem?_eq_some_iff.1 hu).1; rwa [uv_length] at this
    rw [uv_at s.list j hj] at hu
    cases hu
    have hw1 := hb1'.out.size
    rw [Addr.add_mid, Nat.zero_add, hb2.out.cell (p := ⟨gs, j, none⟩) (by show gs < w1.heap.size; omega), hb1'.out.cell (p := ⟨gs, j, none⟩) hgs]
    exact HS'.out j hj
  have HS8 : Hid (∀ j u, (uv s.list)[j]? = some u → (w2.alloc (.cells #[] 75)).cell? ((⟨gs, 0, none⟩ : Addr).add j) = some u) := fun j u hu => by
    have h := hs8 j u hu
    rw [World.cell?_alloc_lt _ _ _ (World.block_lt_of_cell? w2 _ h)]; exact h
  clear hs8
  go_wp2_with (at_builtin; refine wpList_append_lies _ rfl _ _ 83 rfl w2.heap.size 75 i0 _ 1 4 Tryd.underlying83 hi hz0 hz1 hz2 rfl (by omega) _ 0 [] rfl (World.ownsRow_made w2 #[] 0 (Nat.le_refl _) (by unfold maxLen; omega) rfl) ⟨gs, 0, none⟩ 8 cs (uv s.list) rfl rfl HS8.out (uv_one _) (by omega) (by unfold maxLen; omega) (by omega) (by simp) _ rfl ?_; intro gl0 cl0 w3 hol hgl _ _)
  simp only [Nat.zero_add, List.nil_append] at hol
  have hb3 : Hid (Below w2.heap.size w2 w3) := ((Below.refl _ _).alloc (Nat.le_refl _) _).grown hgl (by simp) (fun j hj => by cases hj; exact Nat.le_refl _)
  have hl3 : Hid (At8 w3 gl0 s) := At8.owns hol
  have hcl0 : 8 ≤ cl0 := by
    rcases hol.2 with ⟨h0, _⟩ | ⟨g', cap', cur, hv, _, _, hcc, _⟩
    · cases h0
    · cases hv; exact hcc
  have hz1' := hb1'.out.size
  have hz2' := hs2'.out
  have hz3' := hb3.out.size
  have hW3 : Hid (∀ i, i < 64 → w3.cell? ⟨gw, i, none⟩ = some (.int .u32 (U (wd f i)))) := fun i hi => by
    rw [hb3.out.cell (p := ⟨gw, i, none⟩) (by show gw < w2.heap.size; omega), hb2.out.cell (p := ⟨gw, i, none⟩) (by show gw < w1.heap.size; omega)]
    exact own_cell how'.out i (by rw [sch_length]; omega)
  have hK3 : Hid (∀ i, i < 64 → w3.cell? ⟨w1.heap.size, i, none⟩ = some (.int .u32 (U (kk i)))) := fun i hi => by
    rw [hb3.out.cell (p := ⟨w1.heap.size, i, none⟩) (by show w1.heap.size < w2.heap.size; omega)]
    exact hk2.out i hi
  have hS3 : Hid (At8 w3 gs s) := ((HS'.out.below hb1'.out hgs).below hb2.out (by omega)).below hb3.out (by omega)
  have hbw3 : Hid (Below w.heap.size w w3) := (hb1'.out.trans (hb2.out.mono (by omega))).trans (hb3.out.mono (by omega))
  have hgw3 : gw < w3.heap.size := by omega
  have hgk3 : w1.heap.size < w3.heap.size := by omega
  have hgs3 : gs < w3.heap.size := by omega
  have hwz : w.heap.size ≤ w3.heap.size := by omega
  clear hol hgl hb3 hb2 hb1' hk2 how' HS8 HS' hz1' hz2' hz3' hs2'
  go_loopw [7, 8] (fun l t wr => ∃ k gl cl : Nat, k ≤ 64 ∧ 8 ≤ cl ∧ t = .int .i64 k ∧ l = .slice (some ⟨gl, 0, none⟩) 8 cl ∧ Hid (At8 wr gl (rnds f k s)) ∧ Hid (Below w3.heap.size w3 wr)) (fun _ t _ => 64 - (intOf t).toNat)
  case atStart => exact ⟨0, gl0, cl0, by omega, hcl0, rfl, rfl, hl3, Below.refl _ _⟩
  case round =>
    clear hl3
    obtain ⟨k, gl, cl, hk, hcl8, rfl, rfl, hcl, hb⟩ := hrel
    by_cases hlt : k < 64
    · have hk0 : (0 : Int) ≤ (k : Int) := by omega
      have hk1 : (k : Int) < 64 := by omega
      have ck : wr.cell? ⟨w1.heap.size, k, none⟩ = some (.int .u32 (U (kk k))) := by rw [hb.out.cell (p := ⟨w1.heap.size, k, none⟩) hgk3]; exact hK3.out k hlt
      have cw : wr.cell? ⟨gw, k, none⟩ = some (.int .u32 (U (wd f k))) := by rw [hb.out.cell (p := ⟨gw, k, none⟩) hgw3]; exact hW3.out k hlt
      obtain ⟨σ, hσ⟩ : ∃ σ, rnds f k s = σ := ⟨_, rfl⟩
      rw [hσ] at hcl
      have hs' : Hid (rnds f (k + 1) s = rnd (kk k) (wd f k) σ) := by show rnd (kk k) (wd f k) (rnds f k s) = _; rw [hσ]
      clear hσ
      have c0 : wr.cell? ⟨gl, 0, none⟩ = some (.int .u32 (U σ.a)) := hcl.out 0 (by omega)
      have c1 : wr.cell? ⟨gl, 1, none⟩ = some (.int .u32 (U σ.b)) := hcl.out 1 (by omega)
      have c2 : wr.cell? ⟨gl, 2, none⟩ = some (.int .u32 (U σ.c)) := hcl.out 2 (by omega)
      have c3 : wr.cell? ⟨gl, 3, none⟩ = some (.int .u32 (U σ.d)) := hcl.out 3 (by omega)
      have c4 : wr.cell? ⟨gl, 4, none⟩ = some (.int .u32 (U σ.e)) := hcl.out 4 (by omega)
      have c5 : wr.cell? ⟨gl, 5, none⟩ = some (.int .u32 (U σ.f)) := hcl.out 5 (by omega)
      have c6 : wr.cell? ⟨gl, 6, none⟩ = some (.int .u32 (U σ.g)) := hcl.out 6 (by omega)
      have c7 : wr.cell? ⟨gl, 7, none⟩ = some (.int .u32 (U σ.h)) := hcl.out 7 (by omega)
      go_wp2_with fail
      go_quiet ((go_at_call 61; exact Calls.quiet_of (turnedI _ _ (by omega) (by omega) _)))
      clear c0 c1 c2 c3 c4 c5 c6 c7 ck cw
      obtain ⟨ws, hws⟩ : ∃ ws, ws = wr.drewN nq := ⟨_, rfl⟩
      rw [← hws]
      have hcl' : Hid (At8 ws gl σ) := by rw [hws]; exact hcl.out
      have hb' : Hid (Below w3.heap.size w3 ws) := by rw [hws]; exact below_drewN hb.out nq
      clear hcl hb hws
      have c0 : ws.cell? ⟨gl, 0, none⟩ = some (.int .u32 (U σ.a)) := hcl'.out 0 (by omega)
      have c1 : ws.cell? ⟨gl, 1, none⟩ = some (.int .u32 (U σ.b)) := hcl'.out 1 (by omega)
      have c2 : ws.cell? ⟨gl, 2, none⟩ = some (.int .u32 (U σ.c)) := hcl'.out 2 (by omega)
      have c3 : ws.cell? ⟨gl, 3, none⟩ = some (.int .u32 (U σ.d)) := hcl'.out 3 (by omega)
      have c4 : ws.cell? ⟨gl, 4, none⟩ = some (.int .u32 (U σ.e)) := hcl'.out 4 (by omega)
      have c5 : ws.cell? ⟨gl, 5, none⟩ = some (.int .u32 (U σ.f)) := hcl'.out 5 (by omega)
      have c6 : ws.cell? ⟨gl, 6, none⟩ = some (.int .u32 (U σ.g)) := hcl'.out 6 (by omega)
      have c7 : ws.cell? ⟨gl, 7, none⟩ = some (.int .u32 (U σ.h)) := hcl'.out 7 (by omega)
      go_wp2_with fail
      go_quiet ((go_at_call 61; exact Calls.quiet_of (turnedI _ _ (by omega) (by omega) _)))
      clear c0 c1 c2 c3 c4 c5 c6 c7
      obtain ⟨wt, hwt⟩ : ∃ wt, wt = ws.drewN nq := ⟨_, rfl⟩
      rw [← hwt]
      have hcl : Hid (At8 wt gl σ) := by rw [hwt]; exact hcl'.out
      have hb : Hid (Below w3.heap.size w3 wt) := by rw [hwt]; exact below_drewN hb'.out nq
      clear hcl' hb' hwt
      have c0 : wt.cell? ⟨gl, 0, none⟩ = some (.int .u32 (U σ.a)) := hcl.out 0 (by omega)
      have c1 : wt.cell? ⟨gl, 1, none⟩ = some (.int .u32 (U σ.b)) := hcl.out 1 (by omega)
      have c2 : wt.cell? ⟨gl, 2, none⟩ = some (.int .u32 (U σ.c)) := hcl.out 2 (by omega)
      have c3 : wt.cell? ⟨gl, 3, none⟩ = some (.int .u32 (U σ.d)) := hcl.out 3 (by omega)
      have c4 : wt.cell? ⟨gl, 4, none⟩ = some (.int .u32 (U σ.e)) := hcl.out 4 (by omega)
      have c5 : wt.cell? ⟨gl, 5, none⟩ = some (.int .u32 (U σ.f)) := hcl.out 5 (by omega)
      have c6 : wt.cell? ⟨gl, 6, none⟩ = some (.int .u32 (U σ.g)) := hcl.out 6 (by omega)
      have c7 : wt.cell? ⟨gl, 7, none⟩ = some (.int .u32 (U σ.h)) := hcl.out 7 (by omega)
      go_wp2_with fail
      go_region_held3 (fun w' => w'.cell? ⟨gl, 0, none⟩ = some (.int .u32 (U σ.a)) ∧ w'.cell? ⟨gl, 1, none⟩ = some (.int .u32 (U σ.b)) ∧ w'.cell? ⟨gl, 2, none⟩ = some (.int .u32 (U σ.c)) ∧ w'.cell? ⟨gl, 3, none⟩ = some (.int .u32 (U σ.d)) ∧ w'.cell? ⟨gl, 4, none⟩ = some (.int .u32 (U σ.e)) ∧ w'.cell? ⟨gl, 5, none⟩ = some (.int .u32 (U σ.f)) ∧ w'.cell? ⟨gl, 6, none⟩ = some (.int .u32 (U σ.g))) (go_keep) (fail)
      all_goals
        change Exit.inBlock _ _ _ _ ((wt.alloc (.cells (uv (rnd (kk k) (wd f k) σ).list).toArray 75)).drew)
        have hn8 : Hid (At8 ((wt.alloc (.cells (uv (rnd (kk k) (wd f k) σ).list).toArray 75)).drew) wt.heap.size (rnds f (k + 1) s)) := by rw [hs'.out]; exact At8.new wt _
        have hbn : Hid (Below w3.heap.size w3 ((wt.alloc (.cells (uv (rnd (kk k) (wd f k) σ).list).toArray 75)).drew)) := (hb.out.alloc hb.out.size _).drew
        clear hcl hb c0 c1 c2 c3 c4 c5 c6 c7 hs'
        go_wp2
        go_roundw
        case rel => first | exact ⟨k + 1, wt.heap.size, 8, by omega, by omega, by go_num, rfl, hn8, hbn⟩ | ((repeat apply Exists.intro); exact ⟨⟨k + 1, wt.heap.size, 8, by omega, by omega, by go_num, rfl, hn8, hbn⟩, rfl⟩)
        case measure => simp [intOf]; omega
    · have hk2 : k = 64 := by omega
      subst hk2
      obtain ⟨σ, hσ⟩ : ∃ σ, rnds f 64 s = σ := ⟨_, rfl⟩
      rw [hσ] at hcl
      have hfin : Hid (tk s f = s.add σ) := by show s.add (rnds f 64 s) = _; rw [hσ]
      clear hσ hlt hk
      have hS : Hid (At8 wr gs s) := hS3.out.below hb.out hgs3
      have hbw : Hid (Below w.heap.size w wr) := hbw3.out.trans (hb.out.mono hwz)
      have hgl := hcl.out.block
      have hgsr := hS.out.block
      have hwr : w.heap.size ≤ wr.heap.size := hbw.out.size
      clear hW3 hK3 hS3 hbw3 hb
      obtain ⟨we, rfl⟩ : ∃ we, we = wr := ⟨_, rfl⟩
      go_wp2
      go_loopw [13, 14] (fun v i wz => ∃ n : Nat, n ≤ 8 ∧ i = .int .i64 n ∧ Hid (wz.ownsRow we.heap.size 75 1 v n (uv ((s.add σ).list.take n))) ∧ Hid (Below we.heap.size we wz)) (fun _ i _ => 8 - (intOf i).toNat)
      case atStart => exact ⟨0, by omega, rfl, World.ownsRow_nil _ _ _ _, Below.refl _ _⟩
      case round =>
        obtain ⟨n, hn, rfl, ho, hbz⟩ := hrel
        by_cases hlt : n < 8
        · have n0 : (0 : Int) ≤ (n : Int) := by omega
          have n1 : (n : Int) < 8 := by omega
          obtain ⟨x, hx⟩ : ∃ x, s.list.getD n 0 = x := ⟨_, rfl⟩
          obtain ⟨y, hy⟩ : ∃ y, σ.list.getD n 0 = y := ⟨_, rfl⟩
          have hat := add_take s σ n hlt
          rw [hx, hy] at hat
          have HAT : Hid ((s.add σ).list.take (n + 1) = (s.add σ).list.take n ++ [x + y]) := hat
          have d1 : wr.cell? ⟨gs, n, none⟩ = some (.int .u32 (U x)) := by rw [hbz.out.cell (p := ⟨gs, n, none⟩) hgsr, ← hx]; exact hS.out n hlt
          have d2 : wr.cell? ⟨gl, n, none⟩ = some (.int .u32 (U y)) := by rw [hbz.out.cell (p := ⟨gl, n, none⟩) hgl, ← hy]; exact hcl.out n hlt
          clear hat hx hy
          go_wp2_with fail
          go_region_law ((refine step_append_lies _ (by rfl) _ _ _ (by rfl) we.heap.size 75 i0 _ 1 4 Tryd.underlying83 hi hz0 hz1 hz2 rfl (by omega) _ n _ (by rfl) (by exact ((ho.out.alloc _).drew)) ⟨wr.heap.size, 0, none⟩ 1 1 (uv [x + y]) (by rfl) (by rfl) (World.news_of_block (heap_alloc_new wr _)) (uv_one _) (by omega) (by unfold maxLen; omega) (by omega) (by have := hbz.out.size; simp; omega) (wr.heap.size + 1) (by simp) ?_; intro g5 cp5 w5 ho5 hg5 hat5 hlt5))
          all_goals
            have ho6 : Hid (w5.ownsRow we.heap.size 75 1 (.slice (some ⟨g5, 0, none⟩) (n + 1) cp5) (n + 1) (uv ((s.add σ).list.take (n + 1)))) := by rw [HAT.out, uv_append]; exact ho5
            have hb6 : Hid (Below we.heap.size we w5) := ((hbz.out.alloc hbz.out.size _).drew).grown hg5 (by have := hbz.out.size; simp; omega) (fun j hj => (ho.out.lt j hj).1)
            clear ho5 hg5 hat5 hlt5 ho hbz d1 d2 HAT
            go_wp2
            go_roundw
            case rel => first | exact ⟨n + 1, by omega, by go_num, ho6, hb6⟩ | ((repeat apply Exists.intro); exact ⟨⟨n + 1, by omega, by go_num, ho6, hb6⟩, rfl⟩)
            case measure => simp [intOf]; omega
        · have hn2 : n = 8 := by omega
          subst hn2
          obtain ⟨g9, cp9, rfl, _, _⟩ := ho.out.form (by omega)
          go_wp2
          go_ret
          exact ⟨g9, cp9, rfl, by rw [hfin.out]; exact ownsRow_base ho.out hwr, hbw.out.trans (hbz.out.mono hwr)⟩
end Go.Proofs.YtdgfbbaddoghaaaDoor.Sha
