/- OrderOf, and the law on it. AllChanges, and the law on it. BetweenRows in the program and in the model, and the law on it. BetweenRows in the model, and the law on it. PowerOf, and the law on it. Plain facts on inversions: no program here. Inversions: the program's count and the model's. IsEven, and the law on it. Plain facts on ranks of rows: no program here. Factorials. RowOf in the program. RowOf in the model, and the law on it. Plain facts on signs: inversions of a product, mod 2. No program here. Plain facts on the place of a row. No program here. PlaceOfRow, and the law on it. The cursor from which the model draws: that it gives some number, and turns its own block alone. What the model draws: some texts, some numbers. What the laws are handed to ask with. What the model draws: changes, texts and stages. What the laws on changes are handed to ask with. -/
import Derived.Test.YtkhglknpcajmiaaK1
import Derived.Test.YtkhglknpcajmiaaK4
import Derived.Laws.CopyOwn
import Derived.StillTailTactics
import Derived.OpenShut
namespace Go.Proofs.Ytkhglknpcajmiaa
open Go.RowKit
set_option linter.unusedSimpArgs false

theorem mx_row {n : Nat} (f : Nat → Nat) (h8 : n ≤ 8) : (strOf n f).size ≤ maxLen := by rw [strOf_size]; unfold maxLen; omega

end Go.Proofs.Ytkhglknpcajmiaa
namespace Go.Proofs.Ytkhglknpcajmiaa
open Go.RowKit

/-- all changes of a stage, none of a number that is no stage -/
def chsAny (n : Int) : List (List Nat) := if 3 ≤ n ∧ n ≤ 8 then chs n.toNat else []
def stageB (n : Int) : Bool := decide (3 ≤ n) && decide (n ≤ 8)
theorem chsAny_len (n : Int) : (chsAny n).length ≤ 100 := by
  unfold chsAny
  split
  · exact (chs_len n.toNat (by omega) (by omega)).1
  · simp
theorem chsAny_in (m : Nat) (h3 : 3 ≤ m) (h8 : m ≤ 8) : chsAny m = chs m := by
  unfold chsAny
  rw [if_pos (by omega)]
  rfl

end Go.Proofs.Ytkhglknpcajmiaa
namespace Go.Proofs.Ytkhglknpcajmiaa
open Go.RowKit

/-- the row that leads from f to g -/
def quoR (n : Nat) (f g : Nat → Nat) : Nat → Nat := mulR n (invF n f) g
theorem isRow_quo {n : Nat} {f g : Nat → Nat} (hf : IsRow n f) (hg : IsRow n g) : IsRow n (quoR n f g) := isRow_mul (isRow_inv hf) hg
theorem quo_mul {n : Nat} {f c : Nat → Nat} (hf : IsRow n f) (hc : IsRow n c) : quoR n f (mulR n f c) = c := by
  unfold quoR
  rw [← mulR_assoc (isRow_inv hf) hf hc, inv_mul hf, rounds_mul hc]
theorem mul_quo {n : Nat} {f g : Nat → Nat} (hf : IsRow n f) (hg : IsRow n g) : mulR n f (quoR n f g) = g := by
  unfold quoR
  rw [← mulR_assoc hf (isRow_inv hf) hg, mul_inv hf, rounds_mul hg]
theorem lets_ch {n : Nat} {l : List Nat} (h3 : 3 ≤ n) (h8 : n ≤ 8) (h : l ∈ chs n) : lets (txt l) = l := lets_txt l fun b hb => by have := (chs_small n h3 h8 l h).2.1 b hb; omega
/-- the change between two texts, if there is one -/
noncomputable def betw (a b : ByteArray) : Option (List Nat) := if twoB a b = true then chText a.size (quoR a.size (dg a) (dg b)) else none

theorem betw_rows {n : Nat} {f g : Nat → Nat} (hf : IsRow n f) (hg : IsRow n g) : betw (strOf n f) (strOf n g) = chText n (quoR n f g) := by
  have h : twoB (strOf n f) (strOf n g) = true := by simp [twoB, goodB_strOf hf, goodB_strOf hg, strOf_size]
  unfold betw
  rw [if_pos h, strOf_size, dg_strOf hf, dg_strOf hg]
theorem two_rows {a b : ByteArray} (h : twoB a b = true) : ∃ n f g, IsRow n f ∧ IsRow n g ∧ a = strOf n f ∧ b = strOf n g := by
  have hy := twoB_yes h
  refine ⟨a.size, dg a, dg b, hy.1, ?_, strOf_of_isStr (isStr_dg a), ?_⟩
  · rw [hy.2.2]; exact hy.2.1
  · rw [hy.2.2]; exact strOf_of_isStr (isStr_dg b)

end Go.Proofs.Ytkhglknpcajmiaa
namespace Go.Proofs.Ytkhglknpcajmiaa
open Go.RowKit

theorem app_rows {n : Nat} {f : Nat → Nat} (hf : IsRow n f) {c : List Nat} (h3 : 3 ≤ n) (h8 : n ≤ 8) (hc : c ∈ chs n) : appF (strOf n f) (txt c) = strOf n (mulR n f (cf n c)) := by
  unfold appF
  rw [strOf_size, dg_strOf hf, lets_ch h3 h8 hc, strOf_mul]
theorem betw_none {n : Nat} {f g : Nat → Nat} (hf : IsRow n f) (hg : IsRow n g) (h : ∀ c ∈ chs n, mulR n f (cf n c) ≠ g) : chText n (quoR n f g) = none := by
  cases hc : chText n (quoR n f g) with
  | none => rfl
  | some l =>
    obtain ⟨h1, h2⟩ := chText_some (isRow_quo hf hg) hc
    exact absurd (by rw [h2]; exact mul_quo hf hg) (h l (mem_chs h1))
theorem betw_some {n : Nat} {f g : Nat → Nat} (hf : IsRow n f) {c : List Nat} (h3 : 3 ≤ n) (h8 : n ≤ 8) (hc : c ∈ chs n) (h : mulR n f (cf n c) = g) : chText n (quoR n f g) = some c := by
  have hg := (chs_small n h3 h8 c hc).1
  rw [← h, quo_mul hf (isRow_cf hg)]
  exact chText_back hg

theorem betw_off {a b : ByteArray} (h : twoB a b = false) : betw a b = none := by
  unfold betw
  rw [if_neg (by rw [h]; simp)]
end Go.Proofs.Ytkhglknpcajmiaa
namespace Go.Proofs.Ytkhglknpcajmiaa
open Go.RowKit
set_option linter.unusedSimpArgs false

/-- the exponent that the program uses -/
theorem expo {m : Nat} (k : Int) (hm : 1 ≤ m) (hm2 : m ≤ 840) : ∃ r : Nat, (wrap64 (k.tmod m + m)).tmod m = r ∧ (r : Int) = k % m ∧ r < m := by
  have hm0 : (0 : Int) < m := by omega
  have h1 : -(m : Int) < k.tmod m := Int.lt_tmod_of_pos k hm0
  have h2 : 0 ≤ k.tmod m + m := by omega
  have h3 : (k.tmod m + m).tmod m = (k.tmod m + m) % m := Int.tmod_eq_emod_of_nonneg h2
  have h4 : (k.tmod m + m) % m = k % m := by
    rw [Int.add_emod_right, Int.tmod_eq_emod]
    split
    · simp
    · rw [Int.sub_emod]
      simp
  have h5 := Int.emod_nonneg k (show (m : Int) ≠ 0 by omega)
  have h6 := Int.emod_lt_of_pos k hm0
  have h7 : k.tmod m < m := Int.tmod_lt_of_pos k hm0
  refine ⟨(k % m).toNat, by rw [IntWalk.wrap64_in _ (by omega), h3, h4]; omega, by omega, by omega⟩

/-- powers, negative ones too -/
def powZ (n : Nat) (f : Nat → Nat) (k : Int) : Nat → Nat := if k < 0 then powR n (invF n f) (-k).toNat else powR n f k.toNat
theorem powZ_expo {n : Nat} {f : Nat → Nat} (h : IsRow n f) {m : Nat} (hm : IsOrd n f m) (k : Int) (r : Nat) (hr : (r : Int) = k % m) : powR n f r = powZ n f k := by
  have hmp := hm.pos
  unfold powZ
  split
  · rename_i hk
    refine (pow_neg h hm.back (-k).toNat r ⟨(-(k / m)).toNat, ?_⟩).symm
    have e := Int.mul_ediv_add_emod k m
    have hneg : k / m < 0 := Int.ediv_neg_of_neg_of_pos hk (by omega)
    have : ((m * (-(k / (m : Int))).toNat : Nat) : Int) = -((m : Int) * (k / m)) := by
      rw [Int.natCast_mul, Int.toNat_of_nonneg (by omega), Int.mul_neg]
    omega
  · rename_i hk
    obtain ⟨q, rfl⟩ := Int.eq_ofNat_of_zero_le (show 0 ≤ k by omega)
    have : r = q % m := by omega
    rw [this, pow_mod h hm.back]
    simp
theorem isRow_powZ {n : Nat} {f : Nat → Nat} (h : IsRow n f) (k : Int) : IsRow n (powZ n f k) := by
  unfold powZ; split
  · exact isRow_pow (isRow_inv h) _
  · exact isRow_pow h _

set_option maxRecDepth 100000 in
set_option maxHeartbeats 1000000 in
theorem l1Power_pos (n : Nat) (f : Nat → Nat) (hf : IsRow n f) (k : Nat) (hk : k ≤ 1000) (w : World) :
    Calls Try.prog 103 #[.string (strOf n f), .int .i64 k] w fun e w' => e = .returned (.string (strOf n (powR n f k))) ∧ Below w.heap.size w w' := by
  have h8 := hf.eight
  have hss := strOf_size n f
  have HF := Lib.hid hf
  clear hf
  go_enter Try.func103, Try.ntmps103
  go_wp2_with (first | (go_at_call 101; refine (l1Rounds_any n h8 _).mono ?_; rintro e w' ⟨rfl, rfl⟩))
  rw [← strOf_rdf]
  go_loopg [1, 5] k (fun q i x wr => ∃ j : Nat, j ≤ k ∧ q + j = k ∧ i = .int .i64 q ∧ x = .string (strOf n (powR n f j)) ∧ w = wr)
  case atStart => exact ⟨0, Nat.zero_le _, rfl, rfl, rfl, rfl⟩
  case round =>
    obtain ⟨j, h1, hq, rfl, rfl, rfl⟩ := hrel
    have HQ := Lib.hid hq
    clear hq
    by_cases hlt : j < k
    · obtain ⟨g', hg'⟩ : ∃ g', gk = g' + 1 := ⟨gk - 1, by have := HQ.out; omega⟩
      subst hg'
      have hg2 : g' < 1000 := by have := HQ.out; omega
      go_wp2_with fail
      refine (l1Times_any n (powR n f j) f _ _ (isStr_row (isRow_pow HF.out j)) (isStr_row HF.out) h8 (fun i hi => ⟨HF.out.lo i hi, HF.out.hi i hi⟩) _).mono ?_
      rintro e w' ⟨rfl, rfl⟩
      rw [strOf_mul]
      go_wp2
      go_roundg g'
      case measure => omega
      case rel => exact ⟨j + 1, by omega, by have := HQ.out; omega, by go_num, rfl, rfl⟩
    · obtain rfl : j = k := by omega
      obtain rfl : gk = 0 := by have := HQ.out; omega
      go_wp2
      go_ret
      exact ⟨rfl, Below.refl _ _⟩

set_option maxRecDepth 100000 in
set_option maxHeartbeats 1000000 in
theorem l1Power_neg (n : Nat) (f : Nat → Nat) (hf : IsRow n f) (k : Nat) (hk0 : 0 < k) (hk : k ≤ 1000) (w : World) :
    Calls Try.prog 103 #[.string (strOf n f), .int .i64 (-(k : Int))] w fun e w' => e = .returned (.string (strOf n (powR n (invF n f) k))) ∧ Below w.heap.size w w' := by
  have h8 := hf.eight
  have hss := strOf_size n (invF n f)
  have hneg : (-(k : Int)) < 0 := by omega
  have HF := Lib.hid hf
  have HI := Lib.hid (isRow_inv hf)
  clear hf
  go_enter Try.func103, Try.ntmps103
  go_wp2_with fail
  refine (l1Turn_any n f _ (isStr_row HF.out) HF.out _).mono ?_
  rintro e w1 ⟨rfl, hb⟩
  have HB := Lib.hid hb
  clear hb
  go_wp2_with (first | (go_at_call 101; refine (l1Rounds_any n h8 _).mono ?_; rintro e w' ⟨rfl, rfl⟩))
  rw [← strOf_rdf]
  go_loopg [1, 5] k (fun q i x wr => ∃ j : Nat, j ≤ k ∧ q + j = k ∧ i = .int .i64 q ∧ x = .string (strOf n (powR n (invF n f) j)) ∧ w1 = wr)
  case atStart => exact ⟨0, Nat.zero_le _, rfl, by simp, rfl, rfl⟩
  case round =>
    obtain ⟨j, h1, hq, rfl, rfl, rfl⟩ := hrel
    have HQ := Lib.hid hq
    clear hq
    by_cases hlt : j < k
    · obtain ⟨g', hg'⟩ : ∃ g', gk = g' + 1 := ⟨gk - 1, by have := HQ.out; omega⟩
      subst hg'
      have hg2 : g' < 1000 := by have := HQ.out; omega
      go_wp2_with fail
      refine (l1Times_any n (powR n (invF n f) j) (invF n f) _ _ (isStr_row (isRow_pow HI.out j)) (isStr_row HI.out) h8 (fun i hi => ⟨HI.out.lo i hi, HI.out.hi i hi⟩) _).mono ?_
      rintro e w' ⟨rfl, rfl⟩
      rw [strOf_mul]
      go_wp2
      go_roundg g'
      case measure => omega
      case rel => exact ⟨j + 1, by omega, by have := HQ.out; omega, by go_num, rfl, rfl⟩
    · obtain rfl : j = k := by omega
      obtain rfl : gk = 0 := by have := HQ.out; omega
      go_wp2
      go_ret
      exact ⟨rfl, HB.out⟩
theorem l1Power_any (n : Nat) (f : Nat → Nat) (hf : IsRow n f) (k : Int) (h1 : -1000 ≤ k) (h2 : k ≤ 1000) (w : World) :
    Calls Try.prog 103 #[.string (strOf n f), .int .i64 k] w fun e w' => e = .returned (.string (strOf n (powZ n f k))) ∧ Below w.heap.size w w' := by
  unfold powZ
  split
  · obtain ⟨q, rfl⟩ : ∃ q : Nat, k = -(q : Int) := ⟨(-k).toNat, by omega⟩
    rw [show (-(-(q : Int))).toNat = q from by omega]
    exact l1Power_neg n f hf q (by omega) (by omega) w
  · obtain ⟨q, rfl⟩ := Int.eq_ofNat_of_zero_le (show 0 ≤ k by omega)
    exact l1Power_pos n f hf q (by omega) w

set_option maxRecDepth 100000 in
set_option maxHeartbeats 1000000 in
theorem sPowerOf_no (s : ByteArray) (hs : s.size ≤ maxLen) (k : Int) (h : ¬ (goodB s = true ∧ -1000 ≤ k ∧ k ≤ 1000)) (w : World) :
    Calls Try.prog 34 #[.string s, .int .i64 k] w fun e w' => e = .returned (.tuple #[.string ⟨#[]⟩, .bool false]) ∧ Below w.heap.size w w' := by
  cases hb : goodB s
  · have H := Lib.hid hb
    clear hb h
    go_enter Try.func34, Try.ntmps34
    go_wp2_with fail
    refine (l1Row_any s hs _).mono ?_
    rintro e w1 ⟨rfl, hb1⟩
    rw [H.out]
    go_wp2
    go_ret2
    exact ⟨rfl, hb1⟩
  · have H := Lib.hid hb
    have hd : (decide (-1000 ≤ k) && decide (k ≤ 1000)) = false := by simp [hb] at h; simp; omega
    clear hb h
    go_enter Try.func34, Try.ntmps34
    go_wp2_with fail
    refine (l1Row_any s hs _).mono ?_
    rintro e w1 ⟨rfl, hb1⟩
    rw [H.out]
    go_wp2_with (first | (go_at_call 100; refine (l1In_any _ _ _ _).mono ?_; rintro e w' ⟨rfl, rfl⟩))
    go_ret2
    exact ⟨rfl, hb1⟩

set_option maxRecDepth 100000 in
set_option maxHeartbeats 1000000 in
theorem sPowerOf_yes (n : Nat) (f : Nat → Nat) (hf : IsRow n f) (k : Int) (h1 : -1000 ≤ k) (h2 : k ≤ 1000) (w : World) :
    Calls Try.prog 34 #[.string (strOf n f), .int .i64 k] w fun e w' => e = .returned (.tuple #[.string (strOf n (powZ n f k)), .bool true]) ∧ Below w.heap.size w w' := by
  have H := Lib.hid (goodB_strOf hf)
  have HF := Lib.hid hf
  clear hf
  go_enter Try.func34, Try.ntmps34
  go_wp2_with fail
  refine (l1Row_any _ (mx_row f HF.out.eight) _).mono ?_
  rintro e w1 ⟨rfl, hb1⟩
  rw [H.out]
  go_wp2_with (first | (go_at_call 100; refine (l1In_any _ _ _ _).mono ?_; rintro e w' ⟨rfl, rfl⟩))
  refine (l1Power_any n f HF.out k h1 h2 _).mono ?_
  rintro e w2 ⟨rfl, hb2⟩
  go_wp2
  go_ret2
  exact ⟨rfl, hb1.trans (hb2.mono hb1.size)⟩

end Go.Proofs.Ytkhglknpcajmiaa
namespace Go.Proofs.Ytkhglknpcajmiaa

/-- how many of the len digits from place lo on are less than v -/
def cntLt (f : Nat → Nat) (v lo : Nat) : Nat → Nat
  | 0 => 0
  | len + 1 => cntLt f v lo len + if f (lo + len) < v then 1 else 0
theorem cntLt_le (f : Nat → Nat) (v lo : Nat) : ∀ len, cntLt f v lo len ≤ len
  | 0 => Nat.le_refl _
  | len + 1 => by have := cntLt_le f v lo len; unfold cntLt; split <;> omega
/-- how many of the first len digits are greater than v -/
def cntGt (f : Nat → Nat) (v : Nat) : Nat → Nat
  | 0 => 0
  | len + 1 => cntGt f v len + if v < f len then 1 else 0
theorem cntGt_le (f : Nat → Nat) (v : Nat) : ∀ len, cntGt f v len ≤ len
  | 0 => Nat.le_refl _
  | len + 1 => by have := cntGt_le f v len; unfold cntGt; split <;> omega
/-- the inversions that begin at the first k places of n -/
def invA (f : Nat → Nat) (n : Nat) : Nat → Nat
  | 0 => 0
  | k + 1 => invA f n k + cntLt f (f k) (k + 1) (n - (k + 1))
/-- the inversions that end at the first k places -/
def invB (f : Nat → Nat) : Nat → Nat
  | 0 => 0
  | k + 1 => invB f k + cntGt f (f k) k
theorem invA_le (f : Nat → Nat) (n : Nat) : ∀ k, invA f n k ≤ k * n
  | 0 => by simp [invA]
  | k + 1 => by
    have := invA_le f n k
    have := cntLt_le f (f k) (k + 1) (n - (k + 1))
    unfold invA
    rw [Nat.succ_mul]; omega
theorem invA_grow (f : Nat → Nat) (n : Nat) : ∀ k, k ≤ n → invA f (n + 1) k = invA f n k + cntGt f (f n) k
  | 0, _ => rfl
  | k + 1, hk => by
    have e : cntLt f (f k) (k + 1) ((n - (k + 1)) + 1) = cntLt f (f k) (k + 1) (n - (k + 1)) + if f n < f k then 1 else 0 := by
      show cntLt f (f k) (k + 1) (n - (k + 1)) + (if f (k + 1 + (n - (k + 1))) < f k then 1 else 0) = _
      rw [show k + 1 + (n - (k + 1)) = n by omega]
    unfold invA cntGt
    rw [invA_grow f n k (by omega), show n + 1 - (k + 1) = (n - (k + 1)) + 1 by omega, e]
    omega
theorem inv_same (f : Nat → Nat) : ∀ n, invA f n n = invB f n
  | 0 => rfl
  | n + 1 => by
    show invA f (n + 1) n + cntLt f (f n) (n + 1) (n + 1 - (n + 1)) = invB f n + cntGt f (f n) n
    rw [invA_grow f n n (Nat.le_refl _), inv_same f n, Nat.sub_self]
    rfl
def evenB (c : Nat) : Bool := c % 2 == 0
theorem evenB_succ (c : Nat) : evenB (c + 1) = !evenB c := by
  unfold evenB
  have : c % 2 = 0 ∨ c % 2 = 1 := by omega
  rcases this with h | h <;> simp [h, Nat.add_mod]
end Go.Proofs.Ytkhglknpcajmiaa
namespace Go.Proofs.Ytkhglknpcajmiaa
open Go.RowKit
set_option linter.unusedSimpArgs false

set_option maxRecDepth 100000 in
set_option maxHeartbeats 1000000 in
theorem slice_part (b i n L : Nat) (hi : i + 1 + L = n) (h8 : n ≤ 8) : ∃ ad : Addr, (∀ W, (Instr.sliceAt 87 (.pointer (some ⟨b, 0, none⟩)) (some (.int .i64 ((i : Int) + 1))) (some (.int .i64 n)) none).run Try.prog W = .ok (.slice (some ad) L (8 - (i + 1))) W) ∧ ∀ t, t < L → ad.add t = ⟨b, i + 1 + t, none⟩ := by
  refine ⟨if 8 = i + 1 then ⟨b, 0, none⟩ else (⟨b, 0, none⟩ : Addr).add (i + 1), fun W => ?_, fun t ht => ?_⟩
  · have hA : Try.prog.arrayLen 87 = 8 := by kernel_rfl
    rw [run_sliceAt_array_lh W _ _ Try.underlying87 .i64 .i64 _ _ (by omega) (by omega) (by rw [hA]; omega)]
    have hs : (sizeOf (Try.prog.elem 87)).run Try.prog W = .ok 1 W := by kernel_rfl
    rw [hs, hA]
    simp [Result.andThen, slicedAt, show ((i : Int) + 1).toNat = i + 1 from by omega]
    omega
  · rw [if_neg (by omega)]
    simp [Addr.add]

end Go.Proofs.Ytkhglknpcajmiaa
namespace Go.Proofs.Ytkhglknpcajmiaa
open Go.RowKit
set_option linter.unusedSimpArgs false

theorem even_int (c : Nat) : ((c : Int) % 2 == 0) = evenB c := by
  unfold evenB
  rw [Bool.eq_iff_iff]; simp; omega

end Go.Proofs.Ytkhglknpcajmiaa
namespace Go.Proofs.Ytkhglknpcajmiaa

def fact : Nat → Nat
  | 0 => 1
  | k + 1 => fact k * (k + 1)
theorem fact_pos : ∀ k, 1 ≤ fact k
  | 0 => Nat.le_refl _
  | k + 1 => Nat.mul_le_mul (fact_pos k) (show 1 ≤ k + 1 by omega)
theorem fact_mono : ∀ {a b : Nat}, a ≤ b → fact a ≤ fact b
  | a, b, h => by
    induction h with
    | refl => exact Nat.le_refl _
    | step _ ih => exact Nat.le_trans ih (by show _ ≤ fact _ * _; exact Nat.le_mul_of_pos_right _ (by omega))
theorem fact_le {k : Nat} (h : k ≤ 8) : fact k ≤ 40320 := fact_mono h

/-- place i of h taken out, what is behind it moved up -/
def dropF (h : Nat → Nat) (p : Nat) (i : Nat) : Nat := if i < p then h i else h (i + 1)
/-- the m digits of the row of rank k out of the digits h -/
def rowD : Nat → Nat → (Nat → Nat) → Nat → Nat
  | 0, _, _ => fun _ => 0
  | m + 1, k, h => fun i => if i = 0 then h (k / fact m) else rowD m (k % fact m) (dropF h (k / fact m)) (i - 1)
/-- what is left of the digits h, and of the rank k, behind j of m digits -/
def leftK (m k : Nat) : Nat → Nat
  | 0 => k
  | j + 1 => leftK m k j % fact (m - (j + 1))
def leftH (m k : Nat) (h : Nat → Nat) : Nat → Nat → Nat
  | 0 => h
  | j + 1 => dropF (leftH m k h j) (leftK m k j / fact (m - (j + 1)))
def pickAt (m k : Nat) (h : Nat → Nat) (j : Nat) : Nat := leftH m k h j (leftK m k j / fact (m - (j + 1)))
theorem leftK_lt {m k : Nat} (hk : k < fact m) : ∀ j, j ≤ m → leftK m k j < fact (m - j)
  | 0, _ => hk
  | _ + 1, _ => Nat.mod_lt _ (fact_pos _)
theorem pick_lt {m k : Nat} (hk : k < fact m) (j : Nat) (hj : j < m) : leftK m k j / fact (m - (j + 1)) < m - j := by
  have h1 := leftK_lt hk j (by omega)
  rw [show m - j = (m - (j + 1)) + 1 by omega] at h1 ⊢
  exact Nat.div_lt_of_lt_mul (by simpa [fact, Nat.mul_comm] using h1)
theorem leftH_ok {n k : Nat} {h : Nat → Nat} {P : Nat → Prop} (h0 : ∀ t, t < n → P (h t)) : ∀ j, j ≤ n → ∀ t, t < n - j → P (leftH n k h j t)
  | 0, _, t, ht => h0 t ht
  | j + 1, hj, t, ht => by
    have ih := leftH_ok (k := k) h0 j (by omega)
    show P (dropF (leftH n k h j) _ t)
    unfold dropF
    split
    · exact ih t (by omega)
    · exact ih (t + 1) (by omega)
theorem pickAt_ok {n k : Nat} {h : Nat → Nat} {P : Nat → Prop} (hk : k < fact n) (h0 : ∀ t, t < n → P (h t)) (j : Nat) (hj : j < n) : P (pickAt n k h j) :=
  leftH_ok h0 j (by omega) _ (pick_lt hk j hj)
end Go.Proofs.Ytkhglknpcajmiaa
namespace Go.Proofs.Ytkhglknpcajmiaa
open Go.RowKit
set_option linter.unusedSimpArgs false

/-- the product of the numbers from k + 1 to n -/
def factTo (n : Nat) : Nat → Nat
  | 0 => 1
  | j + 1 => factTo n j * (n - j)
theorem factTo_mul (n : Nat) : ∀ j, j ≤ n → factTo n j * fact (n - j) = fact n
  | 0, _ => by simp [factTo]
  | j + 1, h => by
    have ih := factTo_mul n j (by omega)
    rw [show n - j = (n - (j + 1)) + 1 by omega] at ih
    rw [← ih]
    show factTo n j * (n - j) * fact (n - (j + 1)) = factTo n j * (fact (n - (j + 1)) * (n - (j + 1) + 1))
    rw [show n - (j + 1) + 1 = n - j by omega, Nat.mul_assoc, Nat.mul_comm (n - j)]
theorem factTo_le {n : Nat} (h8 : n ≤ 8) (j : Nat) (hj : j ≤ n) : factTo n j ≤ 40320 := by
  have h1 := factTo_mul n j hj
  have h2 := fact_pos (n - j)
  have h3 := fact_le h8
  exact Nat.le_trans (Nat.le_mul_of_pos_right _ h2) (by omega)

end Go.Proofs.Ytkhglknpcajmiaa
namespace Go.Proofs.Ytkhglknpcajmiaa
open Go.RowKit
set_option linter.unusedSimpArgs false

/-- eight digits behind the copy that moves all behind place p one place up -/
def moveF (h : Nat → Nat) (p : Nat) (i : Nat) : Nat := if i < p then h i else if i < 7 then h (i + 1) else h 7
theorem dig8_move (h : Nat → Nat) (p L : Nat) (hL : p + 1 + L = 8) : splice (dig8 h).toList p ((List.range L).map fun t => Value.int .u8 (h (p + 1 + t))) = (dig8 (moveF h p)).toList := by
  have hp : p = 0 ∨ p = 1 ∨ p = 2 ∨ p = 3 ∨ p = 4 ∨ p = 5 ∨ p = 6 ∨ p = 7 := by omega
  rcases hp with rfl | rfl | rfl | rfl | rfl | rfl | rfl | rfl
  · obtain rfl : L = 7 := by omega
    rfl
  · obtain rfl : L = 6 := by omega
    rfl
  · obtain rfl : L = 5 := by omega
    rfl
  · obtain rfl : L = 4 := by omega
    rfl
  · obtain rfl : L = 3 := by omega
    rfl
  · obtain rfl : L = 2 := by omega
    rfl
  · obtain rfl : L = 1 := by omega
    rfl
  · obtain rfl : L = 0 := by omega
    rfl
set_option maxRecDepth 100000 in
set_option maxHeartbeats 1000000 in
theorem slice_from (b p L : Nat) (hL : p + 1 + L = 8) : ∀ W, (Instr.sliceAt 87 (.pointer (some ⟨b, 0, none⟩)) (some (.int .i64 p)) none none).run Try.prog W = .ok (.slice (some ⟨b, p, none⟩) (L + 1) (L + 1)) W := by
  intro W
  have hA : Try.prog.arrayLen 87 = 8 := by kernel_rfl
  rw [run_sliceAt_array_l W _ _ Try.underlying87 .i64 _ (by omega) (by rw [hA]; omega)]
  have hs : (sizeOf (Try.prog.elem 87)).run Try.prog W = .ok 1 W := by kernel_rfl
  rw [hs, hA]
  simp [Result.andThen, slicedAt, Addr.add, show ¬ 8 = p by omega]
  exact ⟨fun e => e.symm, by omega⟩
set_option maxRecDepth 100000 in
set_option maxHeartbeats 1000000 in
theorem slice_from1 (b p L : Nat) (hL : p + 1 + L = 8) : ∃ ad : Addr, (∀ W, (Instr.sliceAt 87 (.pointer (some ⟨b, 0, none⟩)) (some (.int .i64 ((p : Int) + 1))) none none).run Try.prog W = .ok (.slice (some ad) L L) W) ∧ ∀ t, t < L → ad.add t = ⟨b, p + 1 + t, none⟩ := by
  refine ⟨if 8 = p + 1 then ⟨b, 0, none⟩ else (⟨b, 0, none⟩ : Addr).add (p + 1), fun W => ?_, fun t ht => ?_⟩
  · have hA : Try.prog.arrayLen 87 = 8 := by kernel_rfl
    rw [run_sliceAt_array_l W _ _ Try.underlying87 .i64 _ (by omega) (by rw [hA]; omega)]
    have hs : (sizeOf (Try.prog.elem 87)).run Try.prog W = .ok 1 W := by kernel_rfl
    rw [hs, hA]
    simp [Result.andThen, slicedAt, show ((p : Int) + 1).toNat = p + 1 from by omega]
    omega
  · rw [if_neg (by omega)]
    simp [Addr.add]

end Go.Proofs.Ytkhglknpcajmiaa
namespace Go.Proofs.Ytkhglknpcajmiaa
open Go.RowKit
set_option linter.unusedSimpArgs false

theorem str_drop (M : Nat) (h : Nat → Nat) (p : Nat) (hp : p ≤ M) : (strOf (M + 1) h).extract 0 p ++ (strOf (M + 1) h).extract (p + 1) (M + 1) = strOf M (dropF h p) := by
  have e : ((strOf (M + 1) h).extract 0 p ++ (strOf (M + 1) h).extract (p + 1) (M + 1)).data = (strOf M (dropF h p)).data := by
    rw [ByteArray.data_append, ByteArray.data_extract, ByteArray.data_extract]
    apply Array.ext
    · simp [strOf]; omega
    · intro i h1 h2
      have hi : i < M := by simpa [strOf] using h2
      by_cases hip : i < p
      · rw [Array.getElem_append_left (by simp [strOf]; omega)]
        simp [strOf, dropF, hip]
      · rw [Array.getElem_append_right (by simp [strOf]; omega)]
        simp [strOf, dropF, hip]
        rw [show p + 1 + (i - min p (M + 1)) = i + 1 by omega]
  cases h1 : ((strOf (M + 1) h).extract 0 p ++ (strOf (M + 1) h).extract (p + 1) (M + 1)); cases h2 : strOf M (dropF h p)
  rw [h1, h2] at e
  exact congrArg _ e

end Go.Proofs.Ytkhglknpcajmiaa
namespace Go.Proofs.Ytkhglknpcajmiaa

def sumN (F : Nat → Nat) : Nat → Nat
  | 0 => 0
  | n + 1 => sumN F n + F n
theorem sumN_congr {F G : Nat → Nat} : ∀ n, (∀ i, i < n → F i = G i) → sumN F n = sumN G n
  | 0, _ => rfl
  | n + 1, h => by
    show sumN F n + F n = sumN G n + G n
    rw [sumN_congr n (fun i hi => h i (by omega)), h n (by omega)]
theorem sumN_add (F G : Nat → Nat) : ∀ n, sumN (fun i => F i + G i) n = sumN F n + sumN G n
  | 0 => rfl
  | n + 1 => by
    show sumN (fun i => F i + G i) n + (F n + G n) = (sumN F n + F n) + (sumN G n + G n)
    rw [sumN_add F G n]; omega
theorem sumN_put (F : Nat → Nat) (x i0 : Nat) : ∀ n, i0 < n → sumN (fun i => if i = i0 then x else F i) n + F i0 = sumN F n + x
  | 0, h => by omega
  | n + 1, h => by
    show sumN (fun i => if i = i0 then x else F i) n + (if n = i0 then x else F n) + F i0 = sumN F n + F n + x
    by_cases e : n = i0
    · subst e
      rw [if_pos rfl, sumN_congr n (F := fun i => if i = n then x else F i) (G := F) (fun i hi => by simp; omega)]
      omega
    · have ih := sumN_put F x i0 n (by omega)
      rw [if_neg e]; omega
/-- a sum in another order -/
theorem sumN_perm (G : Nat → Nat) : ∀ (n : Nat) (g : Nat → Nat), (∀ i, i < n → g i < n) → (∀ i j, i < n → j < n → g i = g j → i = j) → sumN (fun i => G (g i)) n = sumN G n
  | 0, _, _, _ => rfl
  | n + 1, g, hb, hi => by
    obtain ⟨i0, h0, e0⟩ := pigeon (n + 1) g hb hi n (by omega)
    by_cases hn : i0 = n
    · subst hn
      show sumN (fun i => G (g i)) i0 + G (g i0) = sumN G i0 + G i0
      rw [e0, sumN_perm G i0 g (fun i hin => by
        have h1 := hb i (by omega)
        by_cases q : g i = i0
        · have := hi i i0 (by omega) (by omega) (by omega); omega
        · omega) (fun i j a b c => hi i j (by omega) (by omega) c)]
    · have ih := sumN_perm G n (fun i => if i = i0 then g n else g i) (fun i hin => by
          have h1 := hb i (by omega)
          have h2 := hb n (by omega)
          try dsimp only
          split
          · rename_i e
            by_cases q : g n = n
            · have := hi n i0 (by omega) h0 (by omega); omega
            · omega
          · rename_i e
            by_cases q : g i = n
            · have := hi i i0 (by omega) h0 (by omega); omega
            · omega) (fun i j hin hjn e => by
          try dsimp only at e
          split at e <;> split at e
          · omega
          · have := hi n j (by omega) (by omega) e; omega
          · have := hi i n (by omega) (by omega) e; omega
          · exact hi i j (by omega) (by omega) e)
      have hput := sumN_put (fun i => G (g i)) (G (g n)) i0 n (by omega)
      have hsame : sumN (fun i => G (if i = i0 then g n else g i)) n = sumN (fun i => if i = i0 then G (g n) else G (g i)) n :=
        sumN_congr n fun i _ => by split <;> rfl
      show sumN (fun i => G (g i)) n + G (g n) = sumN G n + G n
      rw [← ih, hsame, ← hput, e0]

/-- the sum over all pairs i < j below n -/
def sumT (F : Nat → Nat → Nat) (n : Nat) : Nat := sumN (fun j => sumN (fun i => F i j) j) n
theorem sumT_succ (F : Nat → Nat → Nat) (n : Nat) : sumT F (n + 1) = sumT F n + sumN (fun i => F i n) n := rfl
theorem sumT_all (F : Nat → Nat → Nat) (hs : ∀ i j, F i j = F j i) (hd : ∀ i, F i i = 0) : ∀ n, sumN (fun i => sumN (fun j => F i j) n) n = 2 * sumT F n
  | 0 => rfl
  | n + 1 => by
    have ih := sumT_all F hs hd n
    show sumN (fun i => sumN (fun j => F i j) n + F i n) n + (sumN (fun j => F n j) n + F n n) = _
    rw [sumN_add, ih, hd n, sumT_succ, sumN_congr n (F := fun j => F n j) (G := fun i => F i n) (fun i _ => hs n i)]
    omega
theorem sumT_perm (F : Nat → Nat → Nat) (hs : ∀ i j, F i j = F j i) (hd : ∀ i, F i i = 0) (n : Nat) (g : Nat → Nat) (hb : ∀ i, i < n → g i < n) (hi : ∀ i j, i < n → j < n → g i = g j → i = j) :
    sumT (fun i j => F (g i) (g j)) n = sumT F n := by
  have h1 := sumT_all F hs hd n
  have h2 := sumT_all (fun i j => F (g i) (g j)) (fun i j => hs _ _) (fun i => hd _) n
  have h3 : sumN (fun i => sumN (fun j => F (g i) (g j)) n) n = sumN (fun i => sumN (fun j => F i j) n) n := by
    rw [sumN_congr n (G := fun i => sumN (fun j => F (g i) j) n) (fun i _ => sumN_perm (fun j => F (g i) j) n g hb hi)]
    exact sumN_perm (fun a => sumN (fun j => F a j) n) n g hb hi
  omega
theorem sumN_mod {F G : Nat → Nat} : ∀ n, (∀ i, i < n → F i % 2 = G i % 2) → sumN F n % 2 = sumN G n % 2
  | 0, _ => rfl
  | n + 1, h => by
    show (sumN F n + F n) % 2 = (sumN G n + G n) % 2
    have := sumN_mod n (fun i hi => h i (by omega))
    have := h n (by omega)
    omega
theorem sumT_mod {F G : Nat → Nat → Nat} (n : Nat) (h : ∀ i j, i < j → j < n → F i j % 2 = G i j % 2) : sumT F n % 2 = sumT G n % 2 :=
  sumN_mod n fun j hj => sumN_mod j fun i hi => h i j hi hj
theorem sumT_add (F G : Nat → Nat → Nat) (n : Nat) : sumT (fun i j => F i j + G i j) n = sumT F n + sumT G n := by
  unfold sumT
  rw [← sumN_add]
  exact sumN_congr n fun j _ => sumN_add _ _ j

def invP (f : Nat → Nat) (i j : Nat) : Nat := if f j < f i then 1 else 0
theorem cntGt_sum (f : Nat → Nat) (v : Nat) : ∀ n, cntGt f v n = sumN (fun i => if v < f i then 1 else 0) n
  | 0 => rfl
  | n + 1 => by
    show cntGt f v n + _ = sumN _ n + _
    rw [cntGt_sum f v n]
theorem invB_sum (f : Nat → Nat) : ∀ n, invB f n = sumT (invP f) n
  | 0 => rfl
  | n + 1 => by
    show invB f n + cntGt f (f n) n = sumT (invP f) n + _
    rw [invB_sum f n, cntGt_sum]; rfl
def symP (f : Nat → Nat) (a b : Nat) : Nat := if a < b then invP f a b else if b < a then invP f b a else 0
theorem invB_mul {n : Nat} {f g : Nat → Nat} (hf : IsRow n f) (hg : IsRow n g) : invB (mulR n f g) n % 2 = (invB f n + invB g n) % 2 := by
  have hsym : sumT (symP f) n = sumT (invP f) n := by
    unfold sumT
    exact sumN_congr n fun j _ => sumN_congr j fun i hi => by simp [symP, hi]
  have hperm := sumT_perm (symP f) (fun i j => by unfold symP; split <;> split <;> first | rfl | omega) (fun i => by simp [symP]) n (fun i => g i - 49)
    (fun i hi => by have := hg.lo i hi; have := hg.hi i hi; omega) (fun i j hi hj e => hg.inj i j hi hj (by have := hg.lo i hi; have := hg.lo j hj; omega))
  rw [invB_sum, invB_sum, invB_sum, ← hsym, ← hperm, ← sumT_add]
  refine sumT_mod n fun i j hij hj => ?_
  have hi : i < n := by omega
  have l1 := hg.lo i hi
  have l2 := hg.lo j hj
  have u1 := hg.hi i hi
  have u2 := hg.hi j hj
  have hne : g i ≠ g j := fun e => by have := hg.inj i j hi hj e; omega
  have hfne : f (g i - 49) ≠ f (g j - 49) := fun e => by have := hf.inj _ _ (by omega) (by omega) e; omega
  unfold symP invP
  rw [mulR_at _ _ hi, mulR_at _ _ hj]
  by_cases h1 : g i < g j
  · rw [if_pos (show g i - 49 < g j - 49 by omega), if_neg (show ¬ g j < g i by omega), Nat.add_zero]
  · rw [if_neg (show ¬ g i - 49 < g j - 49 by omega), if_pos (show g j - 49 < g i - 49 by omega), if_pos (show g j < g i by omega)]
    by_cases h2 : f (g j - 49) < f (g i - 49)
    · rw [if_pos h2, if_neg (by omega)]
    · rw [if_neg h2, if_pos (by omega)]
theorem even_mul {n : Nat} {f g : Nat → Nat} (hf : IsRow n f) (hg : IsRow n g) : evenB (invB (mulR n f g) n) = (evenB (invB f n) == evenB (invB g n)) := by
  have := invB_mul hf hg
  unfold evenB
  have h1 : invB f n % 2 = 0 ∨ invB f n % 2 = 1 := by omega
  have h2 : invB g n % 2 = 0 ∨ invB g n % 2 = 1 := by omega
  rcases h1 with h1 | h1 <;> rcases h2 with h2 | h2 <;> simp [this, h1, h2, Nat.add_mod]
end Go.Proofs.Ytkhglknpcajmiaa
namespace Go.Proofs.Ytkhglknpcajmiaa

/-- how many digits behind place i are less than the one there -/
def lessAt (f : Nat → Nat) (n i : Nat) : Nat := cntLt f (f i) (i + 1) (n - (i + 1))
def placeA (f : Nat → Nat) (n : Nat) : Nat → Nat
  | 0 => 0
  | k + 1 => placeA f n k + lessAt f n k * fact (n - (k + 1))
def placeB (f : Nat → Nat) (n : Nat) : Nat → Nat
  | 0 => 0
  | k + 1 => placeB f n k * (n - k) + lessAt f n k
theorem place_same (f : Nat → Nat) (n : Nat) : ∀ k, k ≤ n → placeB f n k * fact (n - k) = placeA f n k
  | 0, _ => by simp [placeB, placeA]
  | k + 1, h => by
    have ih := place_same f n k (by omega)
    show (placeB f n k * (n - k) + lessAt f n k) * fact (n - (k + 1)) = placeA f n k + lessAt f n k * fact (n - (k + 1))
    rw [← ih, Nat.add_mul, show n - k = (n - (k + 1)) + 1 by omega]
    show _ = placeB f n k * (fact (n - (k + 1)) * (n - (k + 1) + 1)) + _
    rw [Nat.mul_assoc, Nat.mul_comm (n - (k + 1) + 1)]
theorem place_end (f : Nat → Nat) (n : Nat) : placeB f n n = placeA f n n := by
  have := place_same f n n (Nat.le_refl _)
  simpa [fact] using this
theorem lessAt_le (f : Nat → Nat) (n i : Nat) : lessAt f n i ≤ n := Nat.le_trans (cntLt_le _ _ _ _) (by omega)
theorem placeA_le {n : Nat} (f : Nat → Nat) (h8 : n ≤ 8) : ∀ k, placeA f n k ≤ k * 322560
  | 0 => Nat.le_refl _
  | k + 1 => by
    have ih := placeA_le f h8 k
    have h1 := lessAt_le f n k
    have h2 := fact_le (show n - (k + 1) ≤ 8 by omega)
    have h3 : lessAt f n k * fact (n - (k + 1)) ≤ 8 * 40320 := Nat.mul_le_mul (by omega) h2
    show placeA f n k + _ ≤ _
    omega
theorem placeB_le {n : Nat} (f : Nat → Nat) (h8 : n ≤ 8) (k : Nat) (hk : k ≤ n) : placeB f n k ≤ 2580480 := by
  have h1 := place_same f n k hk
  have h2 := placeA_le f h8 k
  have h3 := fact_pos (n - k)
  have h4 : placeB f n k ≤ placeB f n k * fact (n - k) := Nat.le_mul_of_pos_right _ h3
  omega
theorem lessAt_mul_le {n : Nat} (f : Nat → Nat) (h8 : n ≤ 8) (k : Nat) : lessAt f n k * fact (n - (k + 1)) ≤ 322560 := by
  have h1 := lessAt_le f n k
  have h2 := fact_le (show n - (k + 1) ≤ 8 by omega)
  exact Nat.mul_le_mul (show lessAt f n k ≤ 8 by omega) h2
end Go.Proofs.Ytkhglknpcajmiaa
namespace Go.Proofs.Ytkhglknpcajmiaa
open Go.RowKit
set_option linter.unusedSimpArgs false

end Go.Proofs.Ytkhglknpcajmiaa
namespace Go.Proofs.Ytkhglknpcajmiaa
open Go.RowKit
set_option linter.unusedSimpArgs false

/-- nothing that was there has turned but block b -/
structure Only (b : Nat) (W W' : World) : Prop where
  os : W'.os = W.os
  tape : W'.tape = W.tape
  output : W'.output = W.output
  size : W.heap.size ≤ W'.heap.size
  block : ∀ k, k < W.heap.size → k ≠ b → W'.heap[k]? = W.heap[k]?
theorem Only.refl (b : Nat) (W : World) : Only b W W := ⟨rfl, rfl, rfl, Nat.le_refl _, fun _ _ _ => rfl⟩
theorem Only.trans {b : Nat} {A B C : World} (h : Only b A B) (k : Only b B C) : Only b A C :=
  ⟨k.os.trans h.os, k.tape.trans h.tape, k.output.trans h.output, Nat.le_trans h.size k.size, fun i hi hne => (k.block i (Nat.lt_of_lt_of_le hi h.size) hne).trans (h.block i hi hne)⟩
theorem Only.of_below {b : Nat} {W W' : World} (h : Below W.heap.size W W') : Only b W W' := ⟨h.os, h.tape, h.output, h.size, fun k hk _ => h.block k hk⟩
theorem Only.below {b : Nat} {W W' : World} (h : Only b W W') (hb : b ≤ W.heap.size) : Below b W W' := ⟨h.os, h.tape, h.output, h.size, fun k hk => h.block k (by omega) (by omega)⟩
theorem Only.set {b : Nat} (W : World) (o : Nat) (v : Value) : Only b W (W.setCell ⟨b, o, none⟩ v) :=
  ⟨rfl, rfl, rfl, by simp, fun k _ hne => Below.heap_setCell W _ v k hne⟩
theorem Only.drewN {b : Nat} {W W' : World} (h : Only b W W') (n : Nat) : Only b W (W'.drewN n) := h.trans ⟨rfl, rfl, rfl, Nat.le_refl _, fun _ _ _ => rfl⟩
theorem RowAt.only {W W' : World} {b c : Nat} {T : TypeId} {cs : Array Value} (H : RowAt W c T cs) (h : Only b W W') (hne : c ≠ b) : RowAt W' c T cs := (h.block c H.lt hne).trans H
theorem RowAt.drewN {W : World} {c : Nat} {T : TypeId} {cs : Array Value} (H : RowAt W c T cs) (n : Nat) : RowAt (W.drewN n) c T cs := H

/-- the bytes that the cursor reads -/
def CodeAt (W : World) (b : Nat) (a : Option Addr) (len : Nat) : Prop :=
  len = 0 ∨ ∃ xb xo, ∃ z : Nat → Nat, a = some ⟨xb, xo, none⟩ ∧ xb ≠ b ∧ ∀ i, i < len → z i < 256 ∧ W.cell? ⟨xb, xo + i, none⟩ = some (.int .u8 (z i))
theorem CodeAt.only {W W' : World} {b : Nat} {a : Option Addr} {len : Nat} (H : CodeAt W b a len) (h : Only b W W') : CodeAt W' b a len := by
  rcases H with h0 | ⟨xb, xo, z, ha, hne, hz⟩
  · exact .inl h0
  · refine .inr ⟨xb, xo, z, ha, hne, fun i hi => ⟨(hz i hi).1, ?_⟩⟩
    have hlt := block_lt_of_cell (hz i hi).2
    rw [World.cell?_of_block (w := W) (h.block xb hlt hne)]
    exact (hz i hi).2
/-- the cursor's block: it has been asked at most m times -/
def Cur (W : World) (b : Nat) (a : Option Addr) (len cap m : Nat) : Prop :=
  CodeAt W b a len ∧ len ≤ 9223372036854775807 ∧ ∃ (p : Nat) (s : Int), p ≤ m ∧ RowAt W b 112 #[.slice a len cap, .int .i64 p, .int .u64 s]
theorem Cur.more {W : World} {b : Nat} {a : Option Addr} {len cap m m' : Nat} (H : Cur W b a len cap m) (h : m ≤ m') : Cur W b a len cap m' := by
  obtain ⟨h1, h2, p, s, h3, h4⟩ := H
  exact ⟨h1, h2, p, s, by omega, h4⟩
theorem Cur.below {W W' : World} {b : Nat} {a : Option Addr} {len cap m : Nat} (H : Cur W b a len cap m) (h : Below W.heap.size W W') : Cur W' b a len cap m := by
  obtain ⟨h1, h2, p, s, h3, h4⟩ := H
  exact ⟨h1.only (Only.of_below h), h2, p, s, h3, h4.kept h⟩

/-- a number below n is returned, and the cursor goes on -/
def SomeNum (n : Nat) (b : Nat) (a : Option Addr) (len cap m : Nat) (w : World) (e : Ending) (w' : World) : Prop :=
  ∃ x : Nat, x < n ∧ e = .returned (.int .i64 x) ∧ Cur w' b a len cap m ∧ Only b w w'

theorem next_end {b : Nat} {a : Option Addr} {len cap m p : Nat} {s : Int} {w : World} (hc : RowAt w b 112 #[.slice a len cap, .int .i64 p, .int .u64 s]) (hcode : CodeAt w b a len) (hlen : len ≤ 9223372036854775807) (hp : p ≤ m)
    (N N2 : Nat) (s2 : Int) (x : Nat) (hx : x < 256) : SomeNum 256 b a len cap (m + 1) w (.returned (.int .i64 x)) ((((w.drewN N).setCell ⟨b, 1, none⟩ (.int .i64 ((p : Int) + 1))).setCell ⟨b, 2, none⟩ (.int .u64 s2)).drewN N2) := by
  have hO : Only b w ((((w.drewN N).setCell ⟨b, 1, none⟩ (.int .i64 ((p : Int) + 1))).setCell ⟨b, 2, none⟩ (.int .u64 s2)).drewN N2) :=
    Only.drewN (((Only.drewN (Only.refl b w) N).trans (Only.set (b := b) _ 1 _)).trans (Only.set (b := b) _ 2 _)) N2
  exact ⟨x, hx, rfl, ⟨hcode.only hO, hlen, p + 1, s2, by omega, (((hc.drewN N).set 1 (.int .i64 ((p : Int) + 1))).set 2 (.int .u64 s2)).drewN N2⟩, hO⟩

set_option maxRecDepth 100000 in
set_option maxHeartbeats 1000000 in
theorem next_in (b : Nat) (xb xo : Nat) (z : Nat → Nat) (len cap m p : Nat) (s : Int) (hm : m ≤ 1000000) (hp : p ≤ m) (hlen : len ≤ 9223372036854775807) (hne : xb ≠ b) (w : World)
    (hz : ∀ i, i < len → z i < 256 ∧ w.cell? ⟨xb, xo + i, none⟩ = some (.int .u8 (z i))) (hlt : p < len)
    (hc : RowAt w b 112 #[.slice (some ⟨xb, xo, none⟩) len cap, .int .i64 p, .int .u64 s]) :
    Calls Try.prog 152 #[.pointer (some ⟨b, 0, none⟩)] w (SomeNum 256 b (some ⟨xb, xo, none⟩) len cap (m + 1) w) := by
  have c0 := hc.cell 0 rfl
  have c1 := hc.cell 1 rfl
  have c2 := hc.cell 2 rfl
  have f1 := hc.free 1
  have f2 := hc.free 2
  have hlt' : (p : Int) < len := by omega
  have hp2 : (p : Int) + 1 ≤ len := by omega
  have hzp := (hz p hlt).2
  have hz2 := (hz p hlt).1
  have HC := Lib.hid hc
  have HCODE := Lib.hid (show CodeAt w b (some ⟨xb, xo, none⟩) len from .inr ⟨xb, xo, z, rfl, hne, hz⟩)
  clear hc hz
  go_enter Try.func152, Try.ntmps152
  go_wp2
  go_quiet (fail)
  go_wp2
  go_quiet (fail)
  go_wp2
  go_quiet (fail)
  go_wp2
  go_ret
  exact next_end HC.out HCODE.out hlen hp _ _ _ (z p) hz2

theorem u64_small (x : Int) : ∃ y : Nat, y < 256 ∧ wrap64 (bits .and .u64 x 255) = (y : Int) := by
  have h : (BitVec.ofInt 64 x &&& BitVec.ofInt 64 255).toNat ≤ 255 := by
    rw [BitVec.toNat_and]; exact Nat.le_trans Nat.and_le_right (by decide)
  have e : bits .and .u64 x 255 = ((BitVec.ofInt 64 x &&& BitVec.ofInt 64 255).toNat : Int) := by
    show IntKind.u64.wrap ((BitVec.ofInt 64 x &&& BitVec.ofInt 64 255).toNat : Int) = _
    exact IntWalk.u64_in _ ⟨by omega, by omega⟩
  exact ⟨_, Nat.lt_of_le_of_lt h (by omega), by rw [e]; exact IntWalk.wrap64_in _ ⟨by omega, by omega⟩⟩
theorem next_end' {b : Nat} {a : Option Addr} {len cap m p : Nat} {s : Int} {w : World} (hc : RowAt w b 112 #[.slice a len cap, .int .i64 p, .int .u64 s]) (hcode : CodeAt w b a len) (hlen : len ≤ 9223372036854775807) (hp : p ≤ m)
    (N N2 : Nat) (s2 : Int) (v : Int) (hv : ∃ y : Nat, y < 256 ∧ v = (y : Int)) : SomeNum 256 b a len cap (m + 1) w (.returned (.int .i64 v)) ((((w.drewN N).setCell ⟨b, 1, none⟩ (.int .i64 ((p : Int) + 1))).setCell ⟨b, 2, none⟩ (.int .u64 s2)).drewN N2) := by
  obtain ⟨y, hy, rfl⟩ := hv
  exact next_end hc hcode hlen hp N N2 s2 y hy

set_option maxRecDepth 100000 in
set_option maxHeartbeats 1000000 in
theorem next_out (b : Nat) (a : Option Addr) (len cap m p : Nat) (s : Int) (hm : m ≤ 1000000) (hp : p ≤ m) (hlen : len ≤ 9223372036854775807) (w : World) (hcode : CodeAt w b a len) (hge : len ≤ p)
    (hc : RowAt w b 112 #[.slice a len cap, .int .i64 p, .int .u64 s]) :
    Calls Try.prog 152 #[.pointer (some ⟨b, 0, none⟩)] w (SomeNum 256 b a len cap (m + 1) w) := by
  have c0 := hc.cell 0 rfl
  have c1 := hc.cell 1 rfl
  have c2 := hc.cell 2 rfl
  have f1 := hc.free 1
  have f2 := hc.free 2
  have hge' : (len : Int) ≤ p := by omega
  have hp2 : (len : Int) < (p : Int) + 1 := by omega
  have HC := Lib.hid hc
  have HCODE := Lib.hid hcode
  clear hc hcode
  go_enter Try.func152, Try.ntmps152
  go_wp2
  go_quiet (fail)
  go_wp2
  go_quiet (fail)
  go_wp2
  go_ret
  exact next_end' HC.out HCODE.out hlen hp _ _ _ _ (u64_small _)

theorem next_any (b : Nat) (a : Option Addr) (len cap m : Nat) (hm : m ≤ 1000000) (w : World) (hc : Cur w b a len cap m) :
    Calls Try.prog 152 #[.pointer (some ⟨b, 0, none⟩)] w (SomeNum 256 b a len cap (m + 1) w) := by
  obtain ⟨hcode, hlen, p, s, hp, hr⟩ := hc
  by_cases hlt : p < len
  · rcases hcode with h0 | ⟨xb, xo, z, rfl, hne, hz⟩
    · omega
    · exact next_in b xb xo z len cap m p s hm hp hlen hne w hz hlt hr
  · exact next_out b a len cap m p s hm hp hlen w hcode (by omega) hr

set_option maxRecDepth 100000 in
set_option maxHeartbeats 1000000 in
theorem pick_any (b : Nat) (a : Option Addr) (len cap m n : Nat) (hm : m ≤ 900000) (hn : 1 ≤ n) (hn2 : n ≤ 65536) (w : World) (hc : Cur w b a len cap m) :
    Calls Try.prog 121 #[.pointer (some ⟨b, 0, none⟩), .int .i64 n] w (SomeNum n b a len cap (m + 2) w) := by
  have HC := Lib.hid hc
  clear hc
  by_cases h1 : n ≤ 1
  · have h1' : (n : Int) ≤ 1 := by omega
    go_enter Try.func121, Try.ntmps121
    go_wp2
    go_ret
    exact ⟨0, by omega, rfl, HC.out.more (by omega), Only.refl _ _⟩
  · have h1' : (1 : Int) < n := by omega
    by_cases h2 : 200 < n
    · have h2' : (200 : Int) < n := by omega
      go_enter Try.func121, Try.ntmps121
      go_wp2_with fail
      refine (next_any b a len cap m (by omega) _ HC.out).mono ?_
      rintro e w1 ⟨x, hx, rfl, hc1, ho1⟩
      have HC1 := Lib.hid hc1
      have HO1 := Lib.hid ho1
      have hxi : (x : Int) < 256 := by omega
      clear hc1 ho1
      go_wp2_with fail
      refine (next_any b a len cap (m + 1) (by omega) _ HC1.out).mono ?_
      rintro e w2 ⟨y, hy, rfl, hc2, ho2⟩
      have HC2 := Lib.hid hc2
      have HO2 := Lib.hid (HO1.out.trans ho2)
      have hyi : (y : Int) < 256 := by omega
      clear hc2 ho2
      have hrem : (((x : Int) * 256 + y) % n) = (((x * 256 + y) % n : Nat) : Int) := by push_cast; rfl
      go_wp2
      go_ret
      exact ⟨(x * 256 + y) % n, Nat.mod_lt _ (by omega), by first | rfl | exact congrArg _ (congrArg _ hrem), HC2.out.more (by omega), HO2.out⟩
    · have h2' : (n : Int) ≤ 200 := by omega
      go_enter Try.func121, Try.ntmps121
      go_wp2_with fail
      refine (next_any b a len cap m (by omega) _ HC.out).mono ?_
      rintro e w1 ⟨x, hx, rfl, hc1, ho1⟩
      have HC1 := Lib.hid hc1
      have HO1 := Lib.hid ho1
      have hxi : (x : Int) < 256 := by omega
      clear hc1 ho1
      go_wp2
      go_ret
      exact ⟨x % n, Nat.mod_lt _ (by omega), by first | rfl | (simp), HC1.out.more (by omega), HO1.out⟩
end Go.Proofs.Ytkhglknpcajmiaa
namespace Go.Proofs.Ytkhglknpcajmiaa
open Go.RowKit
set_option linter.unusedSimpArgs false

def SomeBool (b : Nat) (a : Option Addr) (len cap m : Nat) (w : World) (e : Ending) (w' : World) : Prop :=
  ∃ t : Bool, e = .returned (.bool t) ∧ Cur w' b a len cap m ∧ Only b w w'
/-- a number that meets P is returned, and the cursor goes on -/
def SomeInt (P : Int → Prop) (b : Nat) (a : Option Addr) (len cap m : Nat) (w : World) (e : Ending) (w' : World) : Prop :=
  ∃ x : Int, P x ∧ e = .returned (.int .i64 x) ∧ Cur w' b a len cap m ∧ Only b w w'
/-- a text of no more than n bytes is returned, and the cursor goes on -/
def SomeText (n : Nat) (b : Nat) (a : Option Addr) (len cap m : Nat) (w : World) (e : Ending) (w' : World) : Prop :=
  ∃ s : ByteArray, s.size ≤ n ∧ e = .returned (.string s) ∧ Cur w' b a len cap m ∧ Only b w w'

set_option maxRecDepth 100000 in
set_option maxHeartbeats 1000000 in
theorem one_any (b : Nat) (a : Option Addr) (len cap m n : Nat) (hm : m ≤ 900000) (hn : 1 ≤ n) (hn2 : n ≤ 65536) (w : World) (hc : Cur w b a len cap m) :
    Calls Try.prog 124 #[.pointer (some ⟨b, 0, none⟩), .int .i64 n] w (SomeBool b a len cap (m + 2) w) := by
  have HC := Lib.hid hc
  clear hc
  go_enter Try.func124, Try.ntmps124
  go_wp2_with fail
  refine (pick_any b a len cap m n hm hn hn2 _ HC.out).mono ?_
  rintro e w1 ⟨x, hx, rfl, hc1, ho1⟩
  have HC1 := Lib.hid hc1
  have HO1 := Lib.hid ho1
  clear hc1 ho1
  go_wp2
  go_ret
  exact ⟨_, rfl, HC1.out, HO1.out⟩

set_option maxRecDepth 100000 in
set_option maxHeartbeats 1000000 in
theorem among_any (P : Int → Prop) (b : Nat) (a : Option Addr) (len cap m n lb lcap : Nat) (L : Nat → Int) (hm : m ≤ 900000) (hn : 1 ≤ n) (hn2 : n ≤ 65536) (w : World) (hc : Cur w b a len cap m) (hne : lb ≠ b)
    (hL : ∀ i, i < n → P (L i) ∧ w.cell? ⟨lb, i, none⟩ = some (.int .i64 (L i))) :
    Calls Try.prog 150 #[.pointer (some ⟨b, 0, none⟩), .slice (some ⟨lb, 0, none⟩) n lcap] w (SomeInt P b a len cap (m + 2) w) := by
  have HC := Lib.hid hc
  have HL := Lib.hid hL
  clear hc hL
  go_enter Try.func150, Try.ntmps150
  go_wp2_with fail
  refine (pick_any b a len cap m n hm hn hn2 _ HC.out).mono ?_
  rintro e w1 ⟨x, hx, rfl, hc1, ho1⟩
  have HC1 := Lib.hid hc1
  have HO1 := Lib.hid ho1
  have c1 : w1.cell? ⟨lb, x, none⟩ = some (.int .i64 (L x)) := by
    have hlt := block_lt_of_cell (HL.out x hx).2
    rw [World.cell?_of_block (w := w) (ho1.block lb hlt hne)]
    exact (HL.out x hx).2
  have hxi : (x : Int) < n := by omega
  clear hc1 ho1
  go_wp2
  go_ret
  exact ⟨L x, (HL.out x hx).1, rfl, HC1.out, HO1.out⟩

theorem list_cells (W : World) (l : List Int) (T : TypeId) (i : Nat) (hi : i < l.length) : (W.alloc (.cells (l.map (Value.int .i64)).toArray T)).cell? ⟨W.heap.size, i, none⟩ = some (.int .i64 (l.getD i 0)) := by
  rw [World.cell?_alloc_at _ _ _ _ rfl]
  simp [hi]
theorem Cur.lt {W : World} {b : Nat} {a : Option Addr} {len cap m : Nat} (H : Cur W b a len cap m) : b < W.heap.size := by
  obtain ⟨_, _, p, s, _, h⟩ := H
  exact h.lt

end Go.Proofs.Ytkhglknpcajmiaa
namespace Go.Proofs.Ytkhglknpcajmiaa
open Go.RowKit
set_option linter.unusedSimpArgs false

/-- bytes that came in: nil, or a row of cap cells, the numbers zs -/
def IsBytes (w : World) (a : Option Addr) (len cap : Nat) (zs : List Int) : Prop :=
  (a = none ∧ len = 0 ∧ cap = 0 ∧ zs = []) ∨
  ∃ x, a = some x ∧ len ≤ cap ∧ cap ≤ maxLen ∧ zs.length = cap ∧ (∀ i, i < zs.length → w.cell? (x.add i) = some (.int .u8 (zs.getD i 0))) ∧ ∀ n ∈ zs, (Lit.int .u8 n).wf = true
theorem codeAt_of {w : World} {a : Option Addr} {len cap : Nat} {zs : List Int} (h : IsBytes w a len cap zs) : CodeAt w w.heap.size a len := by
  rcases h with ⟨_, h0, _⟩ | ⟨x, rfl, hl, _, hz, hc, hw⟩
  · exact .inl h0
  · by_cases h0 : len = 0
    · exact .inl h0
    · obtain ⟨xb, xo, sp⟩ := x
      have hc0 := hc 0 (by omega)
      have hsp : sp = none := by simpa [Addr.add] using World.cell?_spot hc0
      subst hsp
      have hadd : ∀ i, (⟨xb, xo, none⟩ : Addr).add i = ⟨xb, xo + i, none⟩ := fun i => by unfold Addr.add; split <;> simp_all
      refine .inr ⟨xb, xo, fun i => (zs.getD i 0).toNat, rfl, ?_, fun i hi => ?_⟩
      · have := block_lt_of_cell hc0
        rw [hadd] at this
        exact Nat.ne_of_lt this
      · have hi2 : i < zs.length := by omega
        have hmem : zs.getD i 0 ∈ zs := by
          rw [List.getD_eq_getElem?_getD, List.getElem?_eq_getElem hi2]
          exact List.getElem_mem hi2
        have hb := bounds_u8 (hw _ hmem)
        have := hc i hi2
        rw [hadd] at this
        refine ⟨by show (zs.getD i 0).toNat < 256; omega, ?_⟩
        rw [this]
        show _ = some (Value.int .u8 ((zs.getD i 0).toNat : Int))
        rw [Int.toNat_of_nonneg hb.1]

theorem cur_newM (a : Option Addr) (len cap : Nat) (w : World) (h : CodeAt w w.heap.size a len) (hl : len ≤ 9223372036854775807) :
    Cur (w.alloc (.cells #[.slice a len cap, .int .i64 0, .int .u64 0] 112)) w.heap.size a len cap 0 :=
  ⟨h.only (Only.of_below ((Below.refl _ _).alloc (Nat.le_refl _) _)), hl, 0, 0, Nat.le_refl _, RowAt.new _ _ _⟩
theorem cur_new (a : Option Addr) (len cap : Nat) (w : World) (h : CodeAt w w.heap.size a len) (hl : len ≤ 1048576) :
    Cur (w.alloc (.cells #[.slice a len cap, .int .i64 0, .int .u64 0] 112)) w.heap.size a len cap 0 :=
  cur_newM a len cap w h (by omega)
theorem cur_below {w W' : World} {o : Obj} (h : Only w.heap.size (w.alloc o) W') : Below w.heap.size w W' :=
  ((Below.refl _ w).alloc (Nat.le_refl _) o).trans (h.below (by simp))

/-- a text of no more than 10 bytes -/
def SomeStr (w : World) (e : Ending) (w' : World) : Prop := ∃ s : ByteArray, s.size ≤ 10 ∧ e = .returned (.string s) ∧ Below w.heap.size w w'
def SomeStr2 (w : World) (e : Ending) (w' : World) : Prop := ∃ s t : ByteArray, s.size ≤ 10 ∧ t.size ≤ 10 ∧ e = .returned (.tuple #[.string s, .string t]) ∧ Below w.heap.size w w'
def SomeStrInt (w : World) (e : Ending) (w' : World) : Prop := ∃ (s : ByteArray) (k : Int), s.size ≤ 10 ∧ e = .returned (.tuple #[.string s, .int .i64 k]) ∧ Below w.heap.size w w'
def SomeInt1 (w : World) (e : Ending) (w' : World) : Prop := ∃ k : Int, e = .returned (.int .i64 k) ∧ Below w.heap.size w w'
def SomeInt2 (w : World) (e : Ending) (w' : World) : Prop := ∃ n k : Int, -100000 ≤ k ∧ k ≤ 100000 ∧ e = .returned (.tuple #[.int .i64 n, .int .i64 k]) ∧ Below w.heap.size w w'

/-- the number that is made of bytes -/
def SmallInt (w : World) (e : Ending) (w' : World) : Prop := ∃ k : Nat, k < 1000003 ∧ e = .returned (.int .i64 k) ∧ w = w'
end Go.Proofs.Ytkhglknpcajmiaa
namespace Go.Proofs.Ytkhglknpcajmiaa
open Go.RowKit

theorem IsBytes.belowW {w w' : World} {a : Option Addr} {len cap : Nat} {zs : List Int} (h : IsBytes w a len cap zs) (hb : Below w.heap.size w w') : IsBytes w' a len cap zs := by
  rcases h with h | ⟨x, h1, h2, h3, h4, h5, h6⟩
  · exact .inl h
  · refine .inr ⟨x, h1, h2, h3, h4, fun i hi => ?_, h6⟩
    have := h5 i hi
    rw [hb.cell (block_lt_of_cell this)]; exact this
theorem IsBytes.lenW {w : World} {a : Option Addr} {len cap : Nat} {zs : List Int} (h : IsBytes w a len cap zs) : len ≤ maxLen := by
  rcases h with ⟨_, h, _⟩ | ⟨x, h1, h2, h3, h4, h5, h6⟩
  · omega
  · omega
theorem mx10W {s : ByteArray} (h : s.size ≤ 10) : s.size ≤ maxLen := by unfold maxLen; omega

/-- a change of stage n is returned, and the cursor goes on -/
def SomeChange (n : Nat) (b : Nat) (a : Option Addr) (len cap m : Nat) (w : World) (e : Ending) (w' : World) : Prop :=
  ∃ l : List Nat, l ∈ chs n ∧ e = .returned (.string (txt l)) ∧ Cur w' b a len cap m ∧ Only b w w'

set_option maxRecDepth 100000 in
set_option maxHeartbeats 1000000 in
theorem change_draw (b : Nat) (a : Option Addr) (len cap m n : Nat) (hm : m ≤ 900000) (h3 : 3 ≤ n) (h8 : n ≤ 8) (w : World) (hc : Cur w b a len cap m) :
    Calls Try.prog 159 #[.pointer (some ⟨b, 0, none⟩), .int .i64 n] w (SomeChange n b a len cap (m + 2) w) := by
  have HC := Lib.hid hc
  have hlt := hc.lt
  clear hc
  obtain ⟨hl1, hl2⟩ := chs_len n h3 h8
  have HALL := Lib.hid (l2All_any n h3 h8)
  have HIN : Hid (∀ i (h : i < (chs n).length), (chs n)[i] ∈ chs n) := Lib.hid (fun i h => List.getElem_mem h)
  obtain ⟨q, hq⟩ : ∃ q, (chs n).length = q := ⟨_, rfl⟩
  have HQ := Lib.hid hq
  rw [hq] at hl1 hl2
  clear hq
  have hq' : (q : Int) ≤ 100 := by omega
  go_enter Try.func159, Try.ntmps159
  go_wp2_with fail
  refine (HALL.out _).mono ?_
  rintro e w1 ⟨v, rfl, hn1, hb1⟩
  obtain ⟨a1, cap1, rfl, ha⟩ := hn1.own.view
  rw [strs_len, HQ.out] at hn1 ha ⊢
  obtain ⟨g, rfl⟩ := ha (by omega)
  have hgb := hn1.base g rfl
  have HV := Lib.hid hn1.own
  have HC1 := Lib.hid (HC.out.below hb1)
  have HO1 := Lib.hid (Only.of_below (b := b) hb1)
  clear hn1 hb1 ha
  go_wp2_with fail
  refine (pick_any b a len cap m q hm hl2 (by omega) _ HC1.out).mono ?_
  rintro e w2 ⟨x, hx, rfl, hc2, ho2⟩
  have hxl : x < (chs n).length := by rw [HQ.out]; exact hx
  have c1 : w2.cell? ⟨g, x, none⟩ = some (.string (txt (chs n)[x])) := by
    have h1 := HV.out.cell x (.string (txt (chs n)[x])) (by simp [strs, hxl])
    rw [World.cell?_of_block (w := w1) (ho2.block g (block_lt_of_cell h1) (by show g ≠ b; omega))]
    exact h1
  have HMEM := Lib.hid (HIN.out x hxl)
  generalize (chs n)[x] = l at *
  have HC2 := Lib.hid hc2
  have HO2 := Lib.hid (HO1.out.trans ho2)
  have hxi : (x : Int) < q := by omega
  clear hc2 ho2
  go_wp2
  go_ret
  exact ⟨l, HMEM.out, rfl, HC2.out, HO2.out⟩

set_option maxRecDepth 100000 in
set_option maxHeartbeats 1000000 in
theorem of_draw (b : Nat) (a : Option Addr) (len cap m n lb lcap : Nat) (L : Nat → ByteArray) (hm : m ≤ 900000) (hn : 1 ≤ n) (hn2 : n ≤ 65536) (w : World) (hc : Cur w b a len cap m) (hne : lb ≠ b)
    (hL : ∀ i, i < n → (L i).size ≤ 10 ∧ w.cell? ⟨lb, i, none⟩ = some (.string (L i))) :
    Calls Try.prog 104 #[.pointer (some ⟨b, 0, none⟩), .slice (some ⟨lb, 0, none⟩) n lcap] w (SomeText 10 b a len cap (m + 2) w) := by
  have HC := Lib.hid hc
  have HL := Lib.hid hL
  clear hc hL
  go_enter Try.func104, Try.ntmps104
  go_wp2_with fail
  refine (pick_any b a len cap m n hm hn hn2 _ HC.out).mono ?_
  rintro e w1 ⟨x, hx, rfl, hc1, ho1⟩
  have HC1 := Lib.hid hc1
  have HO1 := Lib.hid ho1
  have c1 : w1.cell? ⟨lb, x, none⟩ = some (.string (L x)) := by
    have hlt := block_lt_of_cell (HL.out x hx).2
    rw [World.cell?_of_block (w := w) (ho1.block lb hlt hne)]
    exact (HL.out x hx).2
  have hxi : (x : Int) < n := by omega
  have HS := Lib.hid (HL.out x hx).1
  generalize L x = t at c1 HS
  clear hc1 ho1
  go_wp2
  go_ret
  exact ⟨t, HS.out, rfl, HC1.out, HO1.out⟩
end Go.Proofs.Ytkhglknpcajmiaa
namespace Go.Proofs.Ytkhglknpcajmiaa
open Go.RowKit

theorem text_cells (W : World) (l : List ByteArray) (T : TypeId) (i : Nat) (hi : i < l.length) : (W.alloc (.cells (l.map Value.string).toArray T)).cell? ⟨W.heap.size, i, none⟩ = some (.string (l.getD i ⟨#[]⟩)) := by
  rw [World.cell?_alloc_at _ _ _ _ rfl]
  simp [hi]
theorem small_of {l : List ByteArray} (h : ∀ s ∈ l, s.size ≤ 10) (i : Nat) : (l.getD i ⟨#[]⟩).size ≤ 10 := by
  rw [List.getD_eq_getElem?_getD]
  by_cases hi : i < l.length
  · rw [List.getElem?_eq_getElem hi]; exact h _ (List.getElem_mem hi)
  · rw [List.getElem?_eq_none (by omega)]; exact Nat.zero_le _
theorem ch_small {n : Nat} (h3 : 3 ≤ n) (h8 : n ≤ 8) {l : List Nat} (hl : l ∈ chs n) : (txt l).size ≤ 10 := by
  have hg := (chs_small n h3 h8 l hl).1
  have : l.length ≤ n - 2 := by simp [goodL] at hg; omega
  rw [txt_size]; omega

theorem ofList_draw (b : Nat) (a : Option Addr) (len cap m : Nat) (l : List ByteArray) (hl : ∀ s ∈ l, s.size ≤ 10) (hm : m ≤ 900000) (hn : 1 ≤ l.length) (hn2 : l.length ≤ 100) (w : World) (hc : Cur w b a len cap m) (T : TypeId) :
    Calls Try.prog 104 #[.pointer (some ⟨b, 0, none⟩), .slice (some ⟨w.heap.size, 0, none⟩) l.length l.length] (w.alloc (.cells (l.map Value.string).toArray T)) fun e w' => ∃ s : ByteArray, s.size ≤ 10 ∧ e = .returned (.string s) ∧ Cur w' b a len cap (m + 2) ∧ Only b w w' := by
  have hlt := hc.lt
  refine (of_draw b a len cap m l.length w.heap.size l.length (fun i => l.getD i ⟨#[]⟩) hm hn (by omega) _ (hc.below ((Below.refl _ _).alloc (Nat.le_refl _) _)) (by omega) (fun i hi => ⟨small_of hl i, text_cells w l T i hi⟩)).mono ?_
  rintro e w' ⟨s, h1, h2, h3, h4⟩
  exact ⟨s, h1, h2, h3, (Only.of_below (b := b) ((Below.refl w.heap.size w).alloc (Nat.le_refl _) _)).trans h4⟩
def few : List ByteArray := [⟨#[45]⟩, ⟨#[49]⟩, ⟨#[49, 52]⟩, ⟨#[120]⟩]
theorem few_small : ∀ s ∈ few, s.size ≤ 10 := by
  intro s hs
  simp only [few, List.mem_cons, List.not_mem_nil, or_false] at hs
  rcases hs with rfl | rfl | rfl | rfl <;> decide
def many : List ByteArray := [⟨#[45]⟩, ⟨#[]⟩, ⟨#[49]⟩, ⟨#[49, 50]⟩, ⟨#[49, 51]⟩, ⟨#[49, 52]⟩, ⟨#[49, 54]⟩, ⟨#[49, 50, 51, 52, 53, 54]⟩, ⟨#[51, 54]⟩, ⟨#[48]⟩, ⟨#[50, 49]⟩]
theorem many_small : ∀ s ∈ many, s.size ≤ 10 := by
  intro s hs
  simp only [many, List.mem_cons, List.not_mem_nil, or_false] at hs
  rcases hs with rfl | rfl | rfl | rfl | rfl | rfl | rfl | rfl | rfl | rfl | rfl <;> decide

/-- a number and a text of no more than 10 bytes -/
def SomeIntStr (w : World) (e : Ending) (w' : World) : Prop := ∃ (k : Int) (s : ByteArray), s.size ≤ 10 ∧ e = .returned (.tuple #[.int .i64 k, .string s]) ∧ Below w.heap.size w w'

end Go.Proofs.Ytkhglknpcajmiaa
