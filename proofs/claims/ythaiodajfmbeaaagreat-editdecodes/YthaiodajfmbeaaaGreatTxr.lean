/- The walks of code.lay over a text, code.PutText, and of the document's PutText. -/
import Derived.Test.YthaiodajfmbeaaaGreatTx
import Derived.Test.YthaiodajfmbeaaaGreatJoinRr
namespace Go.Proofs.YthaiodajfmbeaaaGreat
open Go.RowKit

set_option maxHeartbeats 1000000 in
set_option maxRecDepth 100000 in
theorem rputText_any (ao : Option Addr) (m c : Nat) (l : List UInt8) (s : ByteArray) (m2 : Nat) (l2 : List UInt8) (w : World) (hl2 : l2.length = m2) (hsl : s = ⟨l2.toArray⟩) (hm : m + m2 + 9 ≤ 140737488355328) (hs : Src w ao m c l) :
    Calls Tryz.prog 38 #[.slice ao m c, .string s] w fun e w' => ∃ v, e = .returned v ∧ New w w' v (m + ((num m2).length + m2)) (l ++ (num m2 ++ l2)) := by
  obtain ⟨i0, hi, hz0, hz1, hz2⟩ := info_parts info5
  have h9 := num_le' m2 (by omega)
  have KP := keep (rputNum_any ao m c l (m2 : Int) w (by omega) hs)
  rw [cl_of' m2 (by omega)] at KP
  have hsz : s.size = m2 := by rw [hsl]; exact hl2
  have HSL := keep hsl
  clear hs hsl
  go_enter Tryz.func38, Tryz.ntmps38
  go_wp2_with fail
  go_fit KP.out
  rintro e w1 ⟨v1, rfl, hn1⟩
  have O1 := keep hn1.1
  have b1 := keep hn1.2
  clear hn1 KP
  go_wp2_with (at_builtin; refine wpList_append_own_string_if (by rfl) _ _ 22 9 rfl w.heap.size i0 Tryz.underlying22 Tryz.underlying9 hi hz0 hz1 hz2 _ (m + (num m2).length) (l ++ num m2) l2 m2 rfl O1.out (by rw [HSL.out]; rfl) hl2 (by omega) b1.out.size ?_; intro v3 w3 ho3 hg3; have hb3 := keep (b1.out.grown hg3 b1.out.size (fun j hj => (O1.out.lt j hj).1)); have ho3' := keep ho3; clear ho3 hg3)
  go_ret
  refine ⟨_, rfl, ?_⟩
  rw [← Nat.add_assoc, ← List.append_assoc]
  exact ⟨ho3'.out, hb3.out⟩
end Go.Proofs.YthaiodajfmbeaaaGreat
