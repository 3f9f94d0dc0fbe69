/- The walk of key.Split. -/
import Derived.Test.YtomceheophnjnaaDoorPt
namespace Go.Proofs.YtomceheophnjnaaDoor
open Go.RowKit

/-- What Split answers. -/
def Splitted (w : World) (l : List UInt8) (e : Ending) (w' : World) : Prop :=
  (IsKey l ∧ ∃ x c, e = .returned (.tuple #[.int .i64 ((big (l.take 8) : Nat) : Int), .int .i64 ((fn l 8).toNat : Int), .slice x (l.length - 9) c, .int .i64 0]) ∧ Src w' x (l.length - 9) c (l.drop 9) ∧ Below w.heap.size w w') ∨
  (¬ IsKey l ∧ e = .returned (.tuple #[.int .i64 0, .int .i64 0, .slice none 0 0, .int .i64 2]) ∧ Below w.heap.size w w')

set_option maxHeartbeats 1000000 in
set_option maxRecDepth 100000 in
theorem split_any (b : Addr) (ao : Option Addr) (m c : Nat) (l : List UInt8) (w : World) (hg : Own w b) (hs : Src w ao m c l) :
    Calls Tryd.prog 12 #[.slice ao m c] w fun e w' => Splitted w l e w' := by
  have KP := keep (parts_any ao m c l w hs)
  have HG := keep hg
  clear hg hs
  go_enter Tryd.func12, Tryd.ntmps12
  go_wp2_with fail
  refine KP.out.mono ?_
  rintro e w1 (⟨hk, x1, c1, rfl, s1, hb1⟩ | ⟨hk, t1, a1, r1, z1, rfl, hb1⟩)
  · have HK := keep hk
    have S1 := keep s1
    have b1 := keep hb1
    have G1 := keep (HG.out.below hb1)
    have hg1 : w1.cell? ⟨0, 0, none⟩ = some (.iface 68 (.pointer (some b))) := G1.out
    have h64 := hk.2.2
    clear hk s1 hb1
    obtain ⟨N, hN⟩ : ∃ N, big (l.take 8) = N := ⟨_, rfl⟩
    obtain ⟨y, hy⟩ : ∃ y, fn l 8 = y := ⟨_, rfl⟩
    obtain ⟨k, hkk⟩ : ∃ k, l.length - 9 = k := ⟨_, rfl⟩
    obtain ⟨r, hr⟩ : ∃ r, l.drop 9 = r := ⟨_, rfl⟩
    rw [hN, hy, hkk]
    rw [hkk, hr] at S1
    have HN := keep hN
    have HY := keep hy
    have HKK := keep hkk
    have HR := keep hr
    have hk55 : k ≤ 55 := by omega
    clear hN hy hkk hr h64
    go_wp2_with fail
    refine (is_nil b w1).mono ?_
    rintro e w2 ⟨rfl, rfl⟩
    go_wp2_with fail
    refine (clone_any x1 k c1 r _ (by omega) S1.out).mono ?_
    rintro e w3 ⟨v3, rfl, hn3⟩
    obtain ⟨x3, c3, rfl, s3, _⟩ := hn3.src
    have S3 := keep s3
    have b3 := keep (b1.out.trans (hn3.2.mono b1.out.size))
    clear hn3 s3
    go_wp2
    (try simp only [Exit.inBlock, Exit.then]); refine bodyPost_ret (results_tmp4 rfl _ _ _) rfl ?_
    refine .inl ⟨HK.out, x3, c3, ?_, ?_, b3.out⟩
    · rw [HN.out, HY.out, HKK.out]; rfl
    · rw [HKK.out, HR.out]; exact S3.out
  · have HK := keep hk
    have b1 := keep hb1
    have G1 := keep (HG.out.below hb1)
    have hg1 : w1.cell? ⟨0, 0, none⟩ = some (.iface 68 (.pointer (some b))) := G1.out
    clear hk hb1
    go_wp2_with fail
    refine (is_fault' z1 b w1 G1.out).mono ?_
    rintro e w2 ⟨rfl, hb2⟩
    have b2 := keep (b1.out.trans (hb2.mono b1.out.size))
    clear hb2
    go_wp2
    (try simp only [Exit.inBlock, Exit.then]); refine bodyPost_ret (results_tmp4 rfl _ _ _) rfl ?_
    exact .inr ⟨HK.out, rfl, b2.out⟩
end Go.Proofs.YtomceheophnjnaaDoor
