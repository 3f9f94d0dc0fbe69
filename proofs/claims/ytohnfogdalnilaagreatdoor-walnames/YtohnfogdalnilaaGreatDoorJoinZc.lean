/- A slice of numbers among the arguments, opened; no walk. -/
/- Which functions and types of this program are those of strconv.Atoi and strings.TrimPrefix, for the contracts of the library; no walk. -/
/- Segments' names as digits: in the order of their numbers, read back; no walk. -/
/- What a body that is added turns of a disk with many files, over plain disks; no walk. -/
/- The walk of wal's Segments, over a disk that has segments' files alone. -/
import Derived.Test.YtohnfogdalnilaaGreatDoorKf
import Derived.Shelf.Strconv.Atoi
import Derived.Shelf.Strings.Prefix
import Derived.Test.YtohnfogdalnilaaGreatDoorProg
import Derived.Test.YtohnfogdalnilaaGreatDoorWa
import Derived.Lib.Atoi
import Derived.Lib.Strings
import Derived.Test.YtohnfogdalnilaaGreatDoorJoinWv
import Derived.Test.YtohnfogdalnilaaGreatDoorJoinNn
namespace Go.Proofs.YtohnfogdalnilaaGreatDoor
open Go.ChangeShapes Go.WideShapes Go.ChangeAt Go.RowKit Go.Deep

set_option maxRecDepth 100000 in
/-- A slice of numbers among the arguments. -/
theorem open_picks {H : Type} {enc : TypeId × Value → H} {W : World} {v : Value} {d : DataW H} {p : List MemPlace} {base : Nat} (hv : Value.okWide Tryz.prog W .any base 33 v) (h : DataW.Trod enc Tryz.prog W 0 (fun _ => true) true 33 v d p) :
    ∃ ao m c zs, v = .slice ao m c ∧ RSrc intKind W ao m c zs ∧ c ≤ maxLen := by
  obtain ⟨a0, len0, cap0, rfl⟩ := okWide_slice Tryz.underlying33 hv
  obtain ⟨fuel, hf⟩ := h
  obtain ⟨ao, m, c, l, h1, h2, h3, _⟩ := open_ints_of (v := .slice a0 len0 cap0) Tryz.underlying33 Tryz.underlying3 (by kernel_rfl) (by simpa only [Value.cells] using hf)
  exact ⟨ao, m, c, l, h1, h2, h3⟩
end Go.Proofs.YtohnfogdalnilaaGreatDoor
namespace Go.Proofs.YtohnfogdalnilaaGreatDoor
open Go.Shelf
def lay_atoi_ren : Go.Shelf.Ren := ⟨fun | 172 => 40 | 244 => 81 | 245 => 82 | 247 => 112 | 279 => 113 | 280 => 114 | 281 => 115 | 282 => 116 | 287 => 129 | 316 => 130 | 171 => 36 | 205 => 131 | 321 => 149 | 322 => 150 | 243 => 72 | 246 => 103 | 283 => 120 | 284 => 121 | 285 => 122 | 286 => 123 | 129 => 135 | 317 => 134 | 318 => 136 | 319 => 137 | 320 => 138 | 337 => 152 | 338 => 153 | n => n, fun | 9 => 9 | 3 => 3 | 75 => 77 | 76 => 78 | 4 => 4 | 5 => 5 | 167 => 153 | 37 => 25 | 0 => 0 | 85 => 154 | 2 => 2 | 168 => 156 | 53 => 133 | 175 => 172 | 46 => 111 | 210 => 176 | 127 => 151 | 145 => 195 | 143 => 193 | 21 => 21 | 171 => 162 | 173 => 165 | 212 => 181 | 51 => 132 | 20 => 20 | 213 => 182 | 232 => 202 | 233 => 203 | 80 => 119 | n => n, fun | 15 => 0 | 16 => 1 | 17 => 2 | 18 => 4 | 19 => 5 | n => n⟩
theorem lay_atoi : Go.Proofs.Lays.n172 Tryz.prog lay_atoi_ren := {
  mixed := by kernel_rfl
  f129 := Tryz.func135.trans (congrArg some (by kernel_rfl))
  f171 := Tryz.func36.trans (congrArg some (by kernel_rfl))
  f172 := Tryz.func40.trans (congrArg some (by kernel_rfl))
  f205 := Tryz.func131.trans (congrArg some (by kernel_rfl))
  f243 := Tryz.func72.trans (congrArg some (by kernel_rfl))
  f244 := Tryz.func81.trans (congrArg some (by kernel_rfl))
  f245 := Tryz.func82.trans (congrArg some (by kernel_rfl))
  f246 := Tryz.func103.trans (congrArg some (by kernel_rfl))
  f247 := Tryz.func112.trans (congrArg some (by kernel_rfl))
  f279 := Tryz.func113.trans (congrArg some (by kernel_rfl))
  f280 := Tryz.func114.trans (congrArg some (by kernel_rfl))
  f281 := Tryz.func115.trans (congrArg some (by kernel_rfl))
  f282 := Tryz.func116.trans (congrArg some (by kernel_rfl))
  f283 := Tryz.func120.trans (congrArg some (by kernel_rfl))
  f284 := Tryz.func121.trans (congrArg some (by kernel_rfl))
  f285 := Tryz.func122.trans (congrArg some (by kernel_rfl))
  f286 := Tryz.func123.trans (congrArg some (by kernel_rfl))
  f287 := Tryz.func129.trans (congrArg some (by kernel_rfl))
  f316 := Tryz.func130.trans (congrArg some (by kernel_rfl))
  f317 := Tryz.func134.trans (congrArg some (by kernel_rfl))
  f318 := Tryz.func136.trans (congrArg some (by kernel_rfl))
  f319 := Tryz.func137.trans (congrArg some (by kernel_rfl))
  f320 := Tryz.func138.trans (congrArg some (by kernel_rfl))
  f321 := Tryz.func149.trans (congrArg some (by kernel_rfl))
  f322 := Tryz.func150.trans (congrArg some (by kernel_rfl))
  f337 := Tryz.func152.trans (congrArg some (by kernel_rfl))
  f338 := Tryz.func153.trans (congrArg some (by kernel_rfl))
  t0 := Tryz.underlying0
  a0 := Tryz.isAgg0
  z0 := Tryz.sizeOf0
  v0 := Tryz.zeroValue0
  t2 := Tryz.underlying2
  a2 := Tryz.isAgg2
  z2 := Tryz.sizeOf2
  v2 := Tryz.zeroValue2
  t3 := Tryz.underlying3
  a3 := Tryz.isAgg3
  z3 := Tryz.sizeOf3
  v3 := Tryz.zeroValue3
  t4 := Tryz.underlying4
  a4 := Tryz.isAgg4
  z4 := Tryz.sizeOf4
  v4 := Tryz.zeroValue4
  t5 := Tryz.underlying5
  a5 := Tryz.isAgg5
  z5 := Tryz.sizeOf5
  v5 := Tryz.zeroValue5
  t9 := Tryz.underlying9
  a9 := Tryz.isAgg9
  z9 := Tryz.sizeOf9
  v9 := Tryz.zeroValue9
  t20 := Tryz.underlying20
  a20 := Tryz.isAgg20
  z20 := Tryz.sizeOf20
  v20 := Tryz.zeroValue20
  t21 := Tryz.underlying21
  a21 := Tryz.isAgg21
  z21 := Tryz.sizeOf21
  v21 := Tryz.zeroValue21
  t37 := Tryz.underlying25
  a37 := Tryz.isAgg25
  z37 := Tryz.sizeOf25
  v37 := Tryz.zeroValue25
  t46 := Tryz.underlying111
  a46 := Tryz.isAgg111
  z46 := Tryz.sizeOf111
  v46 := Tryz.zeroValue111
  t51 := Tryz.underlying132
  a51 := Tryz.isAgg132
  z51 := Tryz.sizeOf132
  v51 := Tryz.zeroValue132
  t53 := Tryz.underlying133
  a53 := Tryz.isAgg133
  z53 := Tryz.sizeOf133
  v53 := Tryz.zeroValue133
  t75 := Tryz.underlying77
  a75 := Tryz.isAgg77
  z75 := Tryz.sizeOf77
  v75 := Tryz.zeroValue77
  t76 := Tryz.underlying78
  a76 := Tryz.isAgg78
  z76 := Tryz.sizeOf78
  v76 := Tryz.zeroValue78
  t85 := Tryz.underlying154
  a85 := Tryz.isAgg154
  z85 := Tryz.sizeOf154
  v85 := Tryz.zeroValue154
  t127 := Tryz.underlying151
  a127 := Tryz.isAgg151
  z127 := Tryz.sizeOf151
  v127 := Tryz.zeroValue151
  t143 := Tryz.underlying193
  a143 := Tryz.isAgg193
  z143 := Tryz.sizeOf193
  v143 := Tryz.zeroValue193
  t145 := Tryz.underlying195
  a145 := Tryz.isAgg195
  z145 := Tryz.sizeOf195
  v145 := Tryz.zeroValue195
  t167 := Tryz.underlying153
  a167 := Tryz.isAgg153
  z167 := Tryz.sizeOf153
  v167 := Tryz.zeroValue153
  t168 := Tryz.underlying156
  a168 := Tryz.isAgg156
  z168 := Tryz.sizeOf156
  v168 := Tryz.zeroValue156
  t171 := Tryz.underlying162
  a171 := Tryz.isAgg162
  z171 := Tryz.sizeOf162
  v171 := Tryz.zeroValue162
  t173 := Tryz.underlying165
  a173 := Tryz.isAgg165
  z173 := Tryz.sizeOf165
  v173 := Tryz.zeroValue165
  t175 := Tryz.underlying172
  a175 := Tryz.isAgg172
  z175 := Tryz.sizeOf172
  v175 := Tryz.zeroValue172
  t210 := Tryz.underlying176
  a210 := Tryz.isAgg176
  z210 := Tryz.sizeOf176
  v210 := Tryz.zeroValue176
  t212 := Tryz.underlying181
  a212 := Tryz.isAgg181
  z212 := Tryz.sizeOf181
  v212 := Tryz.zeroValue181
  t213 := Tryz.underlying182
  a213 := Tryz.isAgg182
  z213 := Tryz.sizeOf182
  t232 := Tryz.underlying202
  a232 := Tryz.isAgg202
  z232 := Tryz.sizeOf202
  v232 := Tryz.zeroValue202
  t233 := Tryz.underlying203
  a233 := Tryz.isAgg203
  z233 := Tryz.sizeOf203
  v233 := Tryz.zeroValue203
  g15 := by kernel_rfl
  g16 := by kernel_rfl
  g17 := by kernel_rfl
  g18 := by kernel_rfl
  g19 := by kernel_rfl }
def lay_trim_ren : Go.Shelf.Ren := ⟨fun | 101 => 41 | 208 => 83 | 206 => 106 | n => n, fun | 9 => 9 | 4 => 4 | 3 => 3 | n => n, fun | n => n⟩
theorem lay_trim : Go.Proofs.Lays.n101 Tryz.prog lay_trim_ren := {
  mixed := by kernel_rfl
  f101 := Tryz.func41.trans (congrArg some (by kernel_rfl))
  f206 := Tryz.func106.trans (congrArg some (by kernel_rfl))
  f208 := Tryz.func83.trans (congrArg some (by kernel_rfl))
  t3 := Tryz.underlying3
  a3 := Tryz.isAgg3
  z3 := Tryz.sizeOf3
  v3 := Tryz.zeroValue3
  t4 := Tryz.underlying4
  a4 := Tryz.isAgg4
  z4 := Tryz.sizeOf4
  v4 := Tryz.zeroValue4
  t9 := Tryz.underlying9
  a9 := Tryz.isAgg9
  z9 := Tryz.sizeOf9
  v9 := Tryz.zeroValue9 }
end Go.Proofs.YtohnfogdalnilaaGreatDoor
namespace Go.Proofs.YtohnfogdalnilaaGreatDoor
open Go.RowKit

/-- k decimal digits. -/
def fixd : Nat → Nat → List UInt8
  | 0, _ => []
  | k + 1, n => fixd k (n / 10) ++ [UInt8.ofNat (48 + n % 10)]
theorem fixd_length : ∀ (k n : Nat), (fixd k n).length = k
  | 0, _ => rfl
  | k + 1, n => by rw [fixd, List.length_append, fixd_length k]; rfl
theorem repeat_snoc (k : Nat) : Lib.repeatL [48] (k + 1) = Lib.repeatL [48] k ++ [48] := by
  induction k with
  | zero => rfl
  | succ k ih =>
    show [48] ++ Lib.repeatL [48] (k + 1) = ([48] ++ Lib.repeatL [48] k) ++ [48]
    rw [ih, List.append_assoc]
theorem fixd_zero : ∀ (k : Nat), fixd k 0 = Lib.repeatL [48] k
  | 0 => rfl
  | k + 1 => by rw [fixd, Nat.zero_div, fixd_zero k, repeat_snoc]; rfl
theorem fixd_pad : ∀ (k n : Nat), 1 ≤ k → n < 10 ^ k → Lib.repeatL [48] (k - Lib.nDigits n) ++ Lib.decDigits n = fixd k n
  | 0, _, h, _ => absurd h (by omega)
  | k + 1, n, _, hn => by
    by_cases h1 : n < 10
    · rw [Lib.nDigits_small h1, Lib.decDigits_one h1, fixd, Nat.div_eq_of_lt h1, fixd_zero, Nat.mod_eq_of_lt h1, Nat.add_sub_cancel]
    · have hk : 1 ≤ k := by
        rcases Nat.eq_zero_or_pos k with rfl | h
        · simp at hn; omega
        · exact h
      have hd : n / 10 < 10 ^ k := by rw [Nat.pow_succ] at hn; omega
      rw [Lib.nDigits_big h1, Lib.decDigits, dif_neg h1, fixd, ← fixd_pad k (n / 10) hk hd, Nat.add_sub_add_right, List.append_assoc]
theorem segName_fix {n : Int} (h : isSeg n = true) : segName n = [119, 97, 108, 47] ++ fixd 13 n.toNat := by
  have hb : 0 ≤ n ∧ n ≤ 1099511627776 := by simpa [isSeg] using h
  have hi : Lib.itoa n = Lib.decDigits n.toNat := by unfold Lib.itoa; rw [if_neg (by omega)]
  unfold segName
  rw [if_pos h, hi, Lib.decDigits_length, List.append_assoc, fixd_pad 13 n.toNat (by omega) (by have e : (10 : Nat) ^ 13 = 10000000000000 := rfl; omega)]
theorem dig_lt {a b : Nat} (ha : a < 10) (hb : b < 10) (h : a < b) : (UInt8.ofNat (48 + a)).toNat < (UInt8.ofNat (48 + b)).toNat := by
  rw [UInt8.toNat_ofNat', UInt8.toNat_ofNat']; omega
theorem less_snoc : ∀ {x y : List UInt8} (a b : UInt8), x.length = y.length → (less x y = true ∨ (x = y ∧ a.toNat < b.toNat)) → less (x ++ [a]) (y ++ [b]) = true
  | [], [], a, b, _, h => by
    rcases h with h | ⟨_, h⟩
    · cases h
    · exact less_cons.2 (.inl h)
  | c :: x, d :: y, a, b, hl, h => by
    have hl' : x.length = y.length := by simpa using hl
    rcases h with h | ⟨h1, h2⟩
    · rcases less_cons.1 h with h3 | ⟨h3, h4⟩
      · exact less_cons.2 (.inl h3)
      · exact less_cons.2 (.inr ⟨h3, less_snoc a b hl' (.inl h4)⟩)
    · cases h1
      exact less_cons.2 (.inr ⟨rfl, less_snoc a b rfl (.inr ⟨rfl, h2⟩)⟩)
  | [], _ :: _, _, _, hl, _ => by simp at hl
  | _ :: _, [], _, _, hl, _ => by simp at hl
theorem fixd_less : ∀ (k a b : Nat), a < 10 ^ k → b < 10 ^ k → a < b → less (fixd k a) (fixd k b) = true
  | 0, a, b, ha, hb, h => by simp at ha hb; omega
  | k + 1, a, b, ha, hb, h => by
    rw [Nat.pow_succ] at ha hb
    rw [fixd, fixd]
    refine less_snoc _ _ (by rw [fixd_length, fixd_length]) ?_
    by_cases h1 : a / 10 = b / 10
    · exact .inr ⟨by rw [h1], dig_lt (Nat.mod_lt _ (by decide)) (Nat.mod_lt _ (by decide)) (by omega)⟩
    · exact .inl (fixd_less k _ _ (by omega) (by omega) (by omega))
theorem seg_less {a b : Int} (ha : isSeg a = true) (hb : isSeg b = true) (h : a < b) : less (segName a) (segName b) = true := by
  have h1 : 0 ≤ a ∧ a ≤ 1099511627776 := by simpa [isSeg] using ha
  have h2 : 0 ≤ b ∧ b ≤ 1099511627776 := by simpa [isSeg] using hb
  rw [segName_fix ha, segName_fix hb, less_pre]
  have e : (10 : Nat) ^ 13 = 10000000000000 := rfl
  exact fixd_less 13 _ _ (by omega) (by omega) (by omega)
theorem seg_inj {a b : Int} (ha : isSeg a = true) (hb : isSeg b = true) (h : segName a = segName b) : a = b := by
  rcases Int.lt_trichotomy a b with h1 | h1 | h1
  · have := seg_less ha hb h1; rw [h, less_irrefl] at this; cases this
  · exact h1
  · have := seg_less hb ha h1; rw [h, less_irrefl] at this; cases this
theorem seg_rise {a b : Int} (ha : isSeg a = true) (hb : isSeg b = true) (h : less (segName a) (segName b) = true) : a < b := by
  rcases Int.lt_trichotomy a b with h1 | h1 | h1
  · exact h1
  · rw [h1, less_irrefl] at h; cases h
  · have := seg_less hb ha h1; rw [less_asymm h] at this; cases this
theorem decFrom_append : ∀ (x : List UInt8) (acc : Nat) (y : List UInt8), Lib.decFrom acc (x ++ y) = (Lib.decFrom acc x).bind fun m => Lib.decFrom m y
  | [], acc, y => rfl
  | b :: x, acc, y => by
    simp only [List.cons_append, Lib.decFrom]
    cases Lib.digitVal b with
    | none => rfl
    | some d => exact decFrom_append x _ y
theorem dig_val {d : Nat} (h : d < 10) : Lib.digitVal (UInt8.ofNat (48 + d)) = some d := by
  have e : (UInt8.ofNat (48 + d)).toNat = 48 + d := by rw [UInt8.toNat_ofNat']; omega
  unfold Lib.digitVal
  rw [e, if_pos (by omega)]
  congr 1
  omega
theorem decFrom_fixd : ∀ (k n : Nat), n < 10 ^ k → Lib.decFrom 0 (fixd k n) = some n
  | 0, n, h => by simp at h; subst h; rfl
  | k + 1, n, h => by
    rw [Nat.pow_succ] at h
    rw [fixd, decFrom_append, decFrom_fixd k (n / 10) (by omega)]
    simp only [Option.bind_some, Lib.decFrom, dig_val (Nat.mod_lt n (by decide))]
    congr 1
    omega
theorem fixd_head (k n : Nat) : ∃ d t, fixd (k + 1) n = UInt8.ofNat (48 + d) :: t ∧ d < 10 := by
  induction k generalizing n with
  | zero => exact ⟨n % 10, [], rfl, Nat.mod_lt _ (by decide)⟩
  | succ k ih =>
    obtain ⟨d, t, h1, h2⟩ := ih (n / 10)
    exact ⟨d, t ++ [UInt8.ofNat (48 + n % 10)], by rw [fixd, h1]; rfl, h2⟩
theorem atoi_fixd (n : Nat) (h : n < 10 ^ 13) : Lib.atoi (fixd 13 n) = some (n : Int) := by
  obtain ⟨d, t, h1, h2⟩ := fixd_head 12 n
  have h3 := decFrom_fixd 13 n h
  rw [h1] at h3 ⊢
  have e : (UInt8.ofNat (48 + d)).toNat = 48 + d := by rw [UInt8.toNat_ofNat']; omega
  have n1 : (UInt8.ofNat (48 + d) == 45) = false := by
    rw [beq_eq_false_iff_ne]; intro h; have := congrArg UInt8.toNat h; rw [e] at this; simp at this; omega
  have n2 : (UInt8.ofNat (48 + d) == 43) = false := by
    rw [beq_eq_false_iff_ne]; intro h; have := congrArg UInt8.toNat h; rw [e] at this; simp at this; omega
  simp only [Lib.atoi, n1, n2, Bool.false_eq_true, if_false, Lib.decNat, List.isEmpty_cons, h3, Option.map_some]
theorem trim_seg {n : Int} (h : isSeg n = true) : Lib.trimPrefix (segName n) [119, 97, 108, 47] = fixd 13 n.toNat := by
  rw [segName_fix h]
  unfold Lib.trimPrefix
  rw [if_pos (by simp [Lib.hasPrefix])]
  rfl
theorem atoi_seg {n : Int} (h : isSeg n = true) : Lib.atoi (fixd 13 n.toNat) = some n := by
  have hb : 0 ≤ n ∧ n ≤ 1099511627776 := by simpa [isSeg] using h
  rw [atoi_fixd n.toNat (by have e : (10 : Nat) ^ 13 = 10000000000000 := rfl; omega)]
  congr 1
  omega
end Go.Proofs.YtohnfogdalnilaaGreatDoor
namespace Go.Proofs.YtohnfogdalnilaaGreatDoor
open Go.RowKit
open Dk (File Disk)

theorem look_put {l : List File} {f : File} (hr : Dk.Rising l) (m : List UInt8) : Dk.look (Dk.put l f) m = if f.name = m then some f else Dk.look l m := by
  have hp := Dk.put_rising f hr
  by_cases h : f.name = m
  · rw [if_pos h, ← h]
    exact Dk.look_mem hp (Dk.put_self l f)
  · rw [if_neg h]
    cases hx : Dk.look l m with
    | some g =>
      obtain ⟨h1, h2⟩ := Dk.look_some hx
      have h3 := Dk.look_mem hp (Dk.put_keeps h1 (by rw [h2]; exact fun e => h e.symm))
      rw [h2] at h3
      exact h3
    | none =>
      cases hy : Dk.look (Dk.put l f) m with
      | none => rfl
      | some g =>
        obtain ⟨h1, h2⟩ := Dk.look_some hy
        rcases Dk.put_mem h1 with h3 | ⟨h3, _⟩
        · exact absurd (by rw [← h3]; exact h2) h
        · exact absurd h2 (Dk.look_none hx g h3)
theorem put_len {l : List File} {f : File} (hr : Dk.Rising l) : (Dk.put l f).length = l.length + (if (Dk.look l f.name).isSome then 0 else 1) := by
  induction l with
  | nil => rfl
  | cons g t ih =>
    by_cases h : less g.name f.name = true
    · have hne : ¬ g.name = f.name := fun e => by rw [e, less_irrefl] at h; cases h
      have hl : Dk.look (g :: t) f.name = Dk.look t f.name := by simp only [Dk.look]; exact if_neg hne
      have hp : Dk.put (g :: t) f = g :: Dk.put t f := by simp only [Dk.put]; exact if_pos h
      rw [hl, hp, List.length_cons, ih hr.2, List.length_cons]
      omega
    · by_cases h2 : g.name = f.name
      · have hl : Dk.look (g :: t) f.name = some g := by simp only [Dk.look]; exact if_pos h2
        have hp : Dk.put (g :: t) f = f :: t := by simp only [Dk.put]; rw [if_neg h, if_pos h2]
        rw [hl, hp]
        rfl
      · have hlt : less f.name g.name = true := by
          cases hh : less f.name g.name with
          | true => rfl
          | false => exact absurd (less_total (by simpa using h) hh) h2
        have hn : Dk.look t f.name = none := by
          cases hx : Dk.look t f.name with
          | none => rfl
          | some k =>
            obtain ⟨h3, h4⟩ := Dk.look_some hx
            have := less_trans hlt (hr.1 k h3)
            rw [h4, less_irrefl] at this
            cases this
        have hl : Dk.look (g :: t) f.name = none := by simp only [Dk.look]; rw [if_neg h2]; exact hn
        have hp : Dk.put (g :: t) f = f :: g :: t := by simp only [Dk.put]; rw [if_neg h, if_neg h2]
        rw [hl, hp]
        rfl
/-- What one has of a name. -/
def had (d : Disk) (N : List UInt8) : List UInt8 := match Dk.look d.files N with | some f => f.bytes | none => []
/-- z has been laid behind what N had; nothing else has turned. -/
structure Grew (N : List UInt8) (d d' : Disk) (z : List UInt8) (k : Nat) : Prop where
  good : Dk.Good d'
  lit : d'.dark = false
  left : d'.left = none
  cap : d'.cap = d.cap
  done : d'.done ≤ d.done + k
  used : Dk.used d'.files ≤ Dk.used d.files + (if (Dk.look d.files N).isSome then 0 else 16 + N.length) + z.length
  other : ∀ m, m ≠ N → Dk.look d'.files m = Dk.look d.files m
  here : ∃ s, Dk.look d'.files N = some ⟨N, s, had d N ++ z⟩
  len : d'.files.length = d.files.length + (if (Dk.look d.files N).isSome then 0 else 1)
theorem Grew.trans {N : List UInt8} {d d1 d2 : Disk} {z1 z2 : List UInt8} {k1 k2 : Nat} (h1 : Grew N d d1 z1 k1) (h2 : Grew N d1 d2 z2 k2) : Grew N d d2 (z1 ++ z2) (k1 + k2) := by
  obtain ⟨s, hs⟩ := h1.here
  have e : (Dk.look d1.files N).isSome = true := by rw [hs]; rfl
  have u2 := h2.used
  have u1 := h1.used
  have l2 := h2.len
  rw [e] at u2 l2
  refine ⟨h2.good, h2.lit, h2.left, h2.cap.trans h1.cap, by have := h1.done; have := h2.done; omega, ?_, fun m hm => (h2.other m hm).trans (h1.other m hm), ?_, ?_⟩
  · rw [List.length_append]
    simp only [if_true] at u2
    omega
  · obtain ⟨s2, hs2⟩ := h2.here
    refine ⟨s2, ?_⟩
    rw [hs2]
    have : had d1 N = had d N ++ z1 := by unfold had; rw [hs]; rfl
    rw [this, List.append_assoc]
  · rw [l2, h1.len]
    simp
theorem write_lit {d : Disk} {l : List File} (hl : d.left = none) (hd : d.dark = false) : Dk.write d l = (0, ⟨d.cap, l, d.done + 1, none, false⟩) := by
  obtain ⟨c, fs, k, lf, dk⟩ := d
  simp only at hl hd
  subst hl hd
  rfl
theorem append_grew {d : Disk} {N t : List UInt8} (g : Dk.Good d) (hd : d.dark = false) (hl : d.left = none) (hN : Dk.named N = true) (ht : t.length ≤ 4096) (hr : Dk.used d.files + (if (Dk.look d.files N).isSome then 0 else 16 + N.length) + t.length ≤ d.cap) : ∃ d', Dk.raw d 0 N [] t = (0, d') ∧ Grew N d d' t 1 := by
  have hok : Dk.okay 0 N [] t = true := by show (Dk.named N && decide (t.length ≤ 4096)) = true; rw [hN, decide_eq_true ht]; rfl
  have hgood := Dk.raw_good 0 N [] t g
  cases hx : Dk.look d.files N with
  | some f =>
    have hn := (Dk.look_some hx).2
    rw [hx] at hr
    have hp : Dk.planOf d.cap d.files 0 N [] t = .inr (Dk.put d.files { f with bytes := f.bytes ++ t }) := by
      simp only [Dk.planOf, Dk.planAppend, hx]
      exact if_neg (by simp at hr; omega)
    have e := (Dk.raw_do hok hd hp).trans (write_lit hl hd)
    rw [e] at hgood
    refine ⟨_, e, hgood, rfl, rfl, rfl, Nat.le_refl _, ?_, fun m hm => ?_, ?_, ?_⟩
    · have := Dk.used_put_old (f := { f with bytes := f.bytes ++ t }) g.rising (by rw [show ({ f with bytes := f.bytes ++ t } : File).name = N from hn]; exact hx)
      simp only [Dk.cost, List.length_append] at this
      rw [hx]
      simp
      omega
    · show Dk.look (Dk.put _ _) m = _
      rw [look_put g.rising, if_neg (by rw [show ({ f with bytes := f.bytes ++ t } : File).name = N from hn]; exact fun e => hm e.symm)]
    · refine ⟨f.safe, ?_⟩
      show Dk.look (Dk.put _ _) N = _
      rw [look_put g.rising, if_pos hn]
      unfold had
      rw [hx]
      simp only [Option.some.injEq, File.mk.injEq, and_true]
      exact hn
    · show (Dk.put _ _).length = _
      rw [put_len g.rising, show ({ f with bytes := f.bytes ++ t } : File).name = N from hn]
  | none =>
    rw [hx] at hr
    have hp : Dk.planOf d.cap d.files 0 N [] t = .inr (Dk.put d.files ⟨N, 0, t⟩) := by
      simp only [Dk.planOf, Dk.planAppend, hx]
      exact if_neg (by simp at hr; omega)
    have e := (Dk.raw_do hok hd hp).trans (write_lit hl hd)
    rw [e] at hgood
    refine ⟨_, e, hgood, rfl, rfl, rfl, Nat.le_refl _, ?_, fun m hm => ?_, ?_, ?_⟩
    · have := Dk.used_put_new (f := ⟨N, 0, t⟩) hx
      simp only [Dk.cost] at this
      rw [hx]
      simp
      omega
    · show Dk.look (Dk.put _ _) m = _
      rw [look_put g.rising, if_neg (fun e => hm e.symm)]
    · refine ⟨0, ?_⟩
      show Dk.look (Dk.put _ _) N = _
      rw [look_put g.rising, if_pos rfl]
      unfold had
      rw [hx]
      rfl
    · show (Dk.put _ _).length = _
      rw [put_len g.rising]
theorem sync_grew {d : Disk} {N : List UInt8} {f : File} (g : Dk.Good d) (hd : d.dark = false) (hl : d.left = none) (hN : Dk.named N = true) (hx : Dk.look d.files N = some f) : ∃ d', Dk.raw d 1 N [] [] = (0, d') ∧ Grew N d d' [] 1 := by
  have hgood := Dk.raw_good 1 N [] [] g
  have hn := (Dk.look_some hx).2
  have hp : Dk.planOf d.cap d.files 1 N [] [] = .inr (Dk.put d.files { f with safe := f.bytes.length }) := by
    simp only [Dk.planOf, Dk.planSync, hx]
  have e := (Dk.raw_do (by show Dk.named N = true; exact hN) hd hp).trans (write_lit hl hd)
  rw [e] at hgood
  refine ⟨_, e, hgood, rfl, rfl, rfl, Nat.le_refl _, ?_, fun m hm => ?_, ?_, ?_⟩
  · have := Dk.used_put_old (f := { f with safe := f.bytes.length }) g.rising (by rw [show ({ f with safe := f.bytes.length } : File).name = N from hn]; exact hx)
    simp only [Dk.cost] at this
    rw [hx]
    simp
    omega
  · show Dk.look (Dk.put _ _) m = _
    rw [look_put g.rising, if_neg (by rw [show ({ f with safe := f.bytes.length } : File).name = N from hn]; exact fun e => hm e.symm)]
  · refine ⟨f.bytes.length, ?_⟩
    show Dk.look (Dk.put _ _) N = _
    rw [look_put g.rising, if_pos hn]
    unfold had
    rw [hx]
    simp only [Option.some.injEq, File.mk.injEq, List.append_nil, and_true]
    exact hn
  · show (Dk.put _ _).length = _
    rw [put_len g.rising, show ({ f with safe := f.bytes.length } : File).name = N from hn]
theorem adds_grew {N : List UInt8} (hN : Dk.named N = true) : ∀ (ts : List (List UInt8)) (d : Disk), ts ≠ [] → Dk.Good d → d.dark = false → d.left = none → (∀ t ∈ ts, t.length ≤ 4096) → Dk.used d.files + (if (Dk.look d.files N).isSome then 0 else 16 + N.length) + ts.flatten.length ≤ d.cap → ∃ d', adds d N ts = (0, d') ∧ Grew N d d' ts.flatten ts.length
  | [], _, h, _, _, _, _, _ => absurd rfl h
  | t :: ts, d, _, g, hd, hl, ht, hr => by
    rw [List.flatten_cons, List.length_append] at hr
    obtain ⟨d1, e1, g1⟩ := append_grew g hd hl hN (ht t (by simp)) (by omega)
    simp only [adds]
    rw [e1]
    simp only [if_true]
    cases ts with
    | nil => exact ⟨d1, rfl, by simpa using g1⟩
    | cons t2 ts =>
      obtain ⟨s, hs⟩ := g1.here
      have hu := g1.used
      obtain ⟨d2, e2, g2⟩ := adds_grew hN (t2 :: ts) d1 (by simp) g1.good g1.lit g1.left (fun t' h' => ht t' (by simp only [List.mem_cons]; exact .inr (List.mem_cons.1 h'))) (by rw [hs, g1.cap]; simp only [Option.isSome_some, if_true]; omega)
      refine ⟨d2, e2, ?_⟩
      have := g1.trans g2
      rw [List.flatten_cons, List.length_cons, Nat.add_comm]
      exact this
theorem wal_grew {d : Disk} {n : Int} {body : List UInt8} (g : Dk.Good d) (hd : d.dark = false) (hl : d.left = none) (hn : isSeg n = true) (hb : body.length ≤ 1048576) (hr : Dk.used d.files + 33 + (frame body).length ≤ d.cap) : ∃ d', walAdd d n body = (0, d') ∧ Grew (segName n) d d' (frame body) 1001 := by
  have hln := segName_len hn
  have hN := segName_named hn
  have hk := chunks_le hb
  have hfl := chunksOf_flat (frame body)
  have hsh := chunksOf_short (frame body)
  have hpos := frame_pos body
  have hroom : Dk.used d.files + (if (Dk.look d.files (segName n)).isSome then 0 else 16 + (segName n).length) + (frame body).length ≤ d.cap := by
    split <;> omega
  unfold walAdd
  rw [hn, if_neg (by rintro (h | h); cases h; omega), if_neg (by rw [hd]; simp), if_neg (by
    unfold roomOf
    split
    · rename_i h; rw [h] at hroom; simp at hroom; omega
    · rename_i h; rw [if_neg h] at hroom; omega)]
  obtain ⟨t, ts, hts⟩ := chunksOf_cons (fr := frame body) (by omega)
  obtain ⟨d1, e1, g1⟩ := adds_grew hN (chunksOf (frame body)) d (by rw [hts]; simp) g hd hl hsh (by rw [hfl]; exact hroom)
  obtain ⟨s, hs⟩ := g1.here
  obtain ⟨d2, e2, g2⟩ := sync_grew g1.good g1.lit g1.left hN hs
  rw [walGo_last e1]
  refine ⟨d2, e2, ?_⟩
  have := g1.trans g2
  rw [List.append_nil, hfl] at this
  exact { this with done := Nat.le_trans this.done (by omega) }
end Go.Proofs.YtohnfogdalnilaaGreatDoor
namespace Go.Proofs.YtohnfogdalnilaaGreatDoor
open Go.RowKit
open Dk (File Disk)

theorem infoI : (Tryz.prog.info? 3).map (fun i => (i.zero, i.size, i.bytes)) = some (some (.int .i64 0), 1, 8) := by kernel_rfl
theorem str_at {w : World} {ao : Option Addr} {n c : Nat} {es : List (List UInt8)} (h : RSrc strKind w ao n c es) (hn : 0 < n) : ∃ b off, ao = some ⟨b, off, none⟩ ∧ b < w.heap.size ∧ ∀ (i : Nat) e, es[i]? = some e → w.cell? ⟨b, off + i, none⟩ = some (.string ⟨e.toArray⟩) := by
  obtain ⟨b, off, h1, h2, h3⟩ := h.form strKind_ok hn
  refine ⟨b, off, h1, h2, fun i e he => ?_⟩
  have := h3 i e he 0 (.string ⟨e.toArray⟩) rfl
  simpa [strKind] using this
theorem below_bytes (w : World) (t : ByteArray) : Below w.heap.size w (Lib.bytesWorld w 5 t) := below_bytesWorld w t
set_option maxHeartbeats 2000000 in
set_option maxRecDepth 100000 in
theorem segments_mem (S : Nat → Prop) (b : Nat) (d : Disk) (ks : List Int) (w : World) (h : Mem S w b d) (ht : Tab w) (hw : 0 < w.heap.size) (hk : d.files.map (·.name) = ks.map segName) (hs : ∀ k ∈ ks, isSeg k = true) (hl : ks.length ≤ 1000000) :
    Calls Tryz.prog 12 #[.pointer (some ⟨b, 0, none⟩)] w fun e w' => ∃ ao c, e = .returned (.slice ao ks.length c) ∧ RSrc intKind w' ao ks.length c ks ∧ Below w.heap.size w w' := by
  obtain ⟨m, l, left, hM⟩ := h
  have NM := keep (names_mem S b m l left d w hM)
  have hlen : d.files.length = ks.length := by have := congrArg List.length hk; simpa using this
  rw [hk, hlen] at NM
  have HT : Hid (∀ w', Below w.heap.size w w' → Tab w') := fun w' hb => ht.below hb hw
  have HSEG := keep hs
  obtain ⟨i0, hi, hz0, hz1, hz2⟩ := info_parts3 infoI
  obtain ⟨K, hK⟩ : ∃ K, ks.length = K := ⟨_, rfl⟩
  rw [hK] at NM hl ⊢
  have HK := keep hK
  clear hM ht hw hk hs hlen hK
  go_enter Tryz.func12, Tryz.ntmps12
  go_wp2_with fail
  refine NM.out.mono ?_
  rintro e w1 ⟨ao, c, rfl, _, hr, hb1⟩
  have R1 := keep hr
  have B1 := keep hb1
  clear hr hb1 NM
  go_wp2_with fail
  go_loopw [3, 11] (fun v i wr => ∃ (t : Nat), t ≤ K ∧ i = .int .i64 (t : Int) ∧ Hid (wr.ownsRow w1.heap.size 3 1 v t (rv intKind (ks.take t)) ∧ Below w1.heap.size w1 wr)) (fun _ i _ => K - (intOf i).toNat)
  case atStart => exact ⟨0, Nat.zero_le _, rfl, World.ownsRow_nil _ _ _ _, Below.refl _ _⟩
  case round =>
    obtain ⟨t, ht, rfl, hI⟩ := hrel
    rcases Nat.lt_or_ge t K with hlt | hge
    · obtain ⟨k, hk⟩ : ∃ k, ks[t]? = some k := ⟨ks[t]'(by have := HK.out; omega), List.getElem?_eq_getElem _⟩
      have hseg := keep (HSEG.out k (List.mem_of_getElem? hk))
      obtain ⟨bn, off, rfl, hbl, hat⟩ := str_at R1.out (by omega)
      have hc0 := below_cell hI.out.2 (hat t (segName k) (by rw [List.getElem?_map, hk]; rfl))
      have hst := keep (show ks.take (t + 1) = ks.take t ++ [k] by rw [List.take_add_one, hk]; rfl)
      have j0 : (0 : Int) ≤ (t : Int) := by omega
      have j1 : (t : Int) < (K : Int) := by omega
      have TR := keep (Any.strings_TrimPrefix lay_trim ⟨(segName k).toArray⟩ ⟨#[119, 97, 108, 47]⟩ wr)
      rw [show Lib.trimPrefix (⟨(segName k).toArray⟩ : ByteArray).data.toList (⟨#[119, 97, 108, 47]⟩ : ByteArray).data.toList = fixd 13 k.toNat from trim_seg hseg.out] at TR
      have AT := keep (Any.strconv_Atoi lay_atoi ⟨(fixd 13 k.toNat).toArray⟩ k (by show (fixd 13 k.toNat).toArray.size ≤ 18; simp [fixd_length]) (atoi_seg hseg.out) wr)
      obtain ⟨N, hN⟩ : ∃ N, segName k = N := ⟨_, rfl⟩
      obtain ⟨D, hD⟩ : ∃ D, fixd 13 k.toNat = D := ⟨_, rfl⟩
      rw [hN] at hc0 TR
      rw [hD] at TR AT
      have HN := keep hN
      clear hat hk hN hD
      go_wp2_with fail
      refine TR.out.mono ?_
      rintro e w2 ⟨rfl, rfl⟩
      clear TR
      go_wp2_with fail
      refine AT.out.mono ?_
      rintro e w3 ⟨rfl, t3, hw3⟩
      have B3 : Hid (Below w2.heap.size w2 w3) := by rw [hw3]; exact below_bytes w2 t3
      have B13 := keep (hI.out.2.trans (B3.out.mono hI.out.2.size))
      have NA := keep (name_any k w3 (HT.out w3 (B1.out.trans (B13.out.mono B1.out.size))))
      rw [HN.out] at NA
      clear hw3 AT
      go_wp2_with fail
      refine NA.out.mono ?_
      rintro e w4 ⟨rfl, hb4⟩
      have B4 := keep (B3.out.trans (hb4.mono B3.out.size))
      have b5 := keep (B4.out.alloc B4.out.size (.cells #[.int .i64 k] 3))
      have ow := keep (own_block (w' := w4.alloc (.cells #[.int .i64 k] 3)) hI.out.1 (fun g hgg => b5.out.block g (own_size hI.out.1 hgg)))
      have sz := keep (show w1.heap.size ≤ (w4.alloc (.cells #[.int .i64 k] 3)).heap.size from Nat.le_trans hI.out.2.size b5.out.size)
      have rc := keep (rec_cells (k := intKind) w4 3 k)
      have BL5 := keep (hI.out.2.trans (b5.out.mono hI.out.2.size))
      clear hb4 NA
      go_wp2_with (first
        | (at_builtin; go_loud (refine wpList_append_rec intKind_ok rfl _ _ 33 3 rfl w1.heap.size i0 _ 8 Tryz.underlying33 hi hz0 hz1 hz2 rfl u3 t (ks.take t) rfl ow.out _ 1 k rfl rc.out (by unfold maxLen; omega) (by omega) sz.out ?_); intro v5 w5 ho5 hg5; have HO5 := keep ho5; have HG5 := keep hg5; clear ho5 hg5))
      have BL6 : Hid (Below w1.heap.size w1 w5) := BL5.out.grown HG5.out BL5.out.size (fun j hj => (hI.out.1.lt j hj).1)
      go_roundw
      case rel => exact ⟨t + 1, by omega, by first | rfl | go_num, by rw [hst.out]; exact HO5.out, BL6.out⟩
      case measure => simp [intOf]; omega
    · obtain rfl : t = K := by omega
      have ho := hI.out.1
      rw [List.take_of_length_le (by have := HK.out; omega)] at ho
      obtain ⟨a5, c5, rfl, hR5, _⟩ := RSrc.own intKind_ok ho (fun _ _ => trivial)
      have R5 := keep hR5
      clear ho hR5
      go_wp2
      go_ret
      exact ⟨a5, c5, rfl, R5.out, B1.out.trans (hI.out.2.mono B1.out.size)⟩
end Go.Proofs.YtohnfogdalnilaaGreatDoor
