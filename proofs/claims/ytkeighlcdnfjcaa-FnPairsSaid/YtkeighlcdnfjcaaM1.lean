/- Plain facts on inversions: no program here. PowerOf, and the law on it. Inversions: the program's count and the model's. IsEven, and the law on it. Plain facts on ranks of rows: no program here. Factorials. RowOf in the program. RowOf in the model, and the law on it. Plain facts on signs: inversions of a product, mod 2. No program here. Plain facts on the place of a row. No program here. PlaceOfRow, and the law on it. -/
import Derived.Test.YtkeighlcdnfjcaaP3
import Derived.Test.YtkeighlcdnfjcaaA15
import Derived.Laws.CopyOwn
import Derived.StillTailTactics
namespace Go.Proofs.Ytkeighlcdnfjcaa

/-- how many of the len digits from place lo on are less than v -/
def cntLt (f : Nat → Nat) (v lo : Nat) : Nat → Nat
  | 0 => 0
  | len + 1 => cntLt f v lo len + if f (lo + len) < v then 1 else 0
theorem cntLt_le (f : Nat → Nat) (v lo : Nat) : ∀ len, cntLt f v lo len ≤ len
  | 0 => Nat.le_refl _
  | len + 1 => by have := cntLt_le f v lo len; unfold cntLt; split <;> omega
/-- how many of the first len digits are greater than v -/
def cntGt (f : Nat → Nat) (v : Nat) : Nat → Nat
  | 0 => 0
  | len + 1 => cntGt f v len + if v < f len then 1 else 0
theorem cntGt_le (f : Nat → Nat) (v : Nat) : ∀ len, cntGt f v len ≤ len
  | 0 => Nat.le_refl _
  | len + 1 => by have := cntGt_le f v len; unfold cntGt; split <;> omega
/-- the inversions that begin at the first k places of n -/
def invA (f : Nat → Nat) (n : Nat) : Nat → Nat
  | 0 => 0
  | k + 1 => invA f n k + cntLt f (f k) (k + 1) (n - (k + 1))
/-- the inversions that end at the first k places -/
def invB (f : Nat → Nat) : Nat → Nat
  | 0 => 0
  | k + 1 => invB f k + cntGt f (f k) k
theorem invA_le (f : Nat → Nat) (n : Nat) : ∀ k, invA f n k ≤ k * n
  | 0 => by simp [invA]
  | k + 1 => by
    have := invA_le f n k
    have := cntLt_le f (f k) (k + 1) (n - (k + 1))
    unfold invA
    rw [Nat.succ_mul]; omega
theorem invA_grow (f : Nat → Nat) (n : Nat) : ∀ k, k ≤ n → invA f (n + 1) k = invA f n k + cntGt f (f n) k
  | 0, _ => rfl
  | k + 1, hk => by
    have e : cntLt f (f k) (k + 1) ((n - (k + 1)) + 1) = cntLt f (f k) (k + 1) (n - (k + 1)) + if f n < f k then 1 else 0 := by
      show cntLt f (f k) (k + 1) (n - (k + 1)) + (if f (k + 1 + (n - (k + 1))) < f k then 1 else 0) = _
      rw [show k + 1 + (n - (k + 1)) = n by omega]
    unfold invA cntGt
    rw [invA_grow f n k (by omega), show n + 1 - (k + 1) = (n - (k + 1)) + 1 by omega, e]
    omega
theorem inv_same (f : Nat → Nat) : ∀ n, invA f n n = invB f n
  | 0 => rfl
  | n + 1 => by
    show invA f (n + 1) n + cntLt f (f n) (n + 1) (n + 1 - (n + 1)) = invB f n + cntGt f (f n) n
    rw [invA_grow f n n (Nat.le_refl _), inv_same f n, Nat.sub_self]
    rfl
def evenB (c : Nat) : Bool := c % 2 == 0
theorem evenB_succ (c : Nat) : evenB (c + 1) = !evenB c := by
  unfold evenB
  have : c % 2 = 0 ∨ c % 2 = 1 := by omega
  rcases this with h | h <;> simp [h, Nat.add_mod]
end Go.Proofs.Ytkeighlcdnfjcaa
namespace Go.Proofs.Ytkeighlcdnfjcaa
open Go.RowKit
set_option linter.unusedSimpArgs false

/-- the exponent that the program uses -/
theorem expo {m : Nat} (k : Int) (hm : 1 ≤ m) (hm2 : m ≤ 840) : ∃ r : Nat, (wrap64 (k.tmod m + m)).tmod m = r ∧ (r : Int) = k % m ∧ r < m := by
  have hm0 : (0 : Int) < m := by omega
  have h1 : -(m : Int) < k.tmod m := Int.lt_tmod_of_pos k hm0
  have h2 : 0 ≤ k.tmod m + m := by omega
  have h3 : (k.tmod m + m).tmod m = (k.tmod m + m) % m := Int.tmod_eq_emod_of_nonneg h2
  have h4 : (k.tmod m + m) % m = k % m := by
    rw [Int.add_emod_right, Int.tmod_eq_emod]
    split
    · simp
    · rw [Int.sub_emod]
      simp
  have h5 := Int.emod_nonneg k (show (m : Int) ≠ 0 by omega)
  have h6 := Int.emod_lt_of_pos k hm0
  have h7 : k.tmod m < m := Int.tmod_lt_of_pos k hm0
  refine ⟨(k % m).toNat, by rw [IntWalk.wrap64_in _ (by omega), h3, h4]; omega, by omega, by omega⟩

/-- powers, negative ones too -/
def powZ (n : Nat) (f : Nat → Nat) (k : Int) : Nat → Nat := if k < 0 then powR n (invF n f) (-k).toNat else powR n f k.toNat
theorem powZ_expo {n : Nat} {f : Nat → Nat} (h : IsRow n f) {m : Nat} (hm : IsOrd n f m) (k : Int) (r : Nat) (hr : (r : Int) = k % m) : powR n f r = powZ n f k := by
  have hmp := hm.pos
  unfold powZ
  split
  · rename_i hk
    refine (pow_neg h hm.back (-k).toNat r ⟨(-(k / m)).toNat, ?_⟩).symm
    have e := Int.mul_ediv_add_emod k m
    have hneg : k / m < 0 := Int.ediv_neg_of_neg_of_pos hk (by omega)
    have : ((m * (-(k / (m : Int))).toNat : Nat) : Int) = -((m : Int) * (k / m)) := by
      rw [Int.natCast_mul, Int.toNat_of_nonneg (by omega), Int.mul_neg]
    omega
  · rename_i hk
    obtain ⟨q, rfl⟩ := Int.eq_ofNat_of_zero_le (show 0 ≤ k by omega)
    have : r = q % m := by omega
    rw [this, pow_mod h hm.back]
    simp
theorem isRow_powZ {n : Nat} {f : Nat → Nat} (h : IsRow n f) (k : Int) : IsRow n (powZ n f k) := by
  unfold powZ; split
  · exact isRow_pow (isRow_inv h) _
  · exact isRow_pow h _

end Go.Proofs.Ytkeighlcdnfjcaa
namespace Go.Proofs.Ytkeighlcdnfjcaa
open Go.RowKit
set_option linter.unusedSimpArgs false

theorem slice_part (b i n L : Nat) (hi : i + 1 + L = n) (h8 : n ≤ 8) : ∃ ad : Addr, (∀ W, (Instr.sliceAt 56 (.pointer (some ⟨b, 0, none⟩)) (some (.int .i64 ((i : Int) + 1))) (some (.int .i64 n)) none).run Try.prog W = .ok (.slice (some ad) L (8 - (i + 1))) W) ∧ ∀ t, t < L → ad.add t = ⟨b, i + 1 + t, none⟩ := by
  refine ⟨if 8 = i + 1 then ⟨b, 0, none⟩ else (⟨b, 0, none⟩ : Addr).add (i + 1), fun W => ?_, fun t ht => ?_⟩
  · have hA : Try.prog.arrayLen 56 = 8 := by kernel_rfl
    rw [run_sliceAt_array_lh W _ _ Try.underlying56 .i64 .i64 _ _ (by omega) (by omega) (by rw [hA]; omega)]
    have hs : (sizeOf (Try.prog.elem 56)).run Try.prog W = .ok 1 W := by kernel_rfl
    rw [hs, hA]
    simp [Result.andThen, slicedAt, show ((i : Int) + 1).toNat = i + 1 from by omega]
    omega
  · rw [if_neg (by omega)]
    simp [Addr.add]

end Go.Proofs.Ytkeighlcdnfjcaa
namespace Go.Proofs.Ytkeighlcdnfjcaa
open Go.RowKit
set_option linter.unusedSimpArgs false

theorem even_int (c : Nat) : ((c : Int) % 2 == 0) = evenB c := by
  unfold evenB
  rw [Bool.eq_iff_iff]; simp; omega

end Go.Proofs.Ytkeighlcdnfjcaa
namespace Go.Proofs.Ytkeighlcdnfjcaa

def fact : Nat → Nat
  | 0 => 1
  | k + 1 => fact k * (k + 1)
theorem fact_pos : ∀ k, 1 ≤ fact k
  | 0 => Nat.le_refl _
  | k + 1 => Nat.mul_le_mul (fact_pos k) (show 1 ≤ k + 1 by omega)
theorem fact_mono : ∀ {a b : Nat}, a ≤ b → fact a ≤ fact b
  | a, b, h => by
    induction h with
    | refl => exact Nat.le_refl _
    | step _ ih => exact Nat.le_trans ih (by show _ ≤ fact _ * _; exact Nat.le_mul_of_pos_right _ (by omega))
theorem fact_le {k : Nat} (h : k ≤ 8) : fact k ≤ 40320 := fact_mono h

/-- place i of h taken out, what is behind it moved up -/
def dropF (h : Nat → Nat) (p : Nat) (i : Nat) : Nat := if i < p then h i else h (i + 1)
/-- the m digits of the row of rank k out of the digits h -/
def rowD : Nat → Nat → (Nat → Nat) → Nat → Nat
  | 0, _, _ => fun _ => 0
  | m + 1, k, h => fun i => if i = 0 then h (k / fact m) else rowD m (k % fact m) (dropF h (k / fact m)) (i - 1)
/-- what is left of the digits h, and of the rank k, behind j of m digits -/
def leftK (m k : Nat) : Nat → Nat
  | 0 => k
  | j + 1 => leftK m k j % fact (m - (j + 1))
def leftH (m k : Nat) (h : Nat → Nat) : Nat → Nat → Nat
  | 0 => h
  | j + 1 => dropF (leftH m k h j) (leftK m k j / fact (m - (j + 1)))
def pickAt (m k : Nat) (h : Nat → Nat) (j : Nat) : Nat := leftH m k h j (leftK m k j / fact (m - (j + 1)))
theorem leftK_lt {m k : Nat} (hk : k < fact m) : ∀ j, j ≤ m → leftK m k j < fact (m - j)
  | 0, _ => hk
  | _ + 1, _ => Nat.mod_lt _ (fact_pos _)
theorem pick_lt {m k : Nat} (hk : k < fact m) (j : Nat) (hj : j < m) : leftK m k j / fact (m - (j + 1)) < m - j := by
  have h1 := leftK_lt hk j (by omega)
  rw [show m - j = (m - (j + 1)) + 1 by omega] at h1 ⊢
  exact Nat.div_lt_of_lt_mul (by simpa [fact, Nat.mul_comm] using h1)
theorem leftH_ok {n k : Nat} {h : Nat → Nat} {P : Nat → Prop} (h0 : ∀ t, t < n → P (h t)) : ∀ j, j ≤ n → ∀ t, t < n - j → P (leftH n k h j t)
  | 0, _, t, ht => h0 t ht
  | j + 1, hj, t, ht => by
    have ih := leftH_ok (k := k) h0 j (by omega)
    show P (dropF (leftH n k h j) _ t)
    unfold dropF
    split
    · exact ih t (by omega)
    · exact ih (t + 1) (by omega)
theorem pickAt_ok {n k : Nat} {h : Nat → Nat} {P : Nat → Prop} (hk : k < fact n) (h0 : ∀ t, t < n → P (h t)) (j : Nat) (hj : j < n) : P (pickAt n k h j) :=
  leftH_ok h0 j (by omega) _ (pick_lt hk j hj)
end Go.Proofs.Ytkeighlcdnfjcaa
namespace Go.Proofs.Ytkeighlcdnfjcaa
open Go.RowKit
set_option linter.unusedSimpArgs false

/-- the product of the numbers from k + 1 to n -/
def factTo (n : Nat) : Nat → Nat
  | 0 => 1
  | j + 1 => factTo n j * (n - j)
theorem factTo_mul (n : Nat) : ∀ j, j ≤ n → factTo n j * fact (n - j) = fact n
  | 0, _ => by simp [factTo]
  | j + 1, h => by
    have ih := factTo_mul n j (by omega)
    rw [show n - j = (n - (j + 1)) + 1 by omega] at ih
    rw [← ih]
    show factTo n j * (n - j) * fact (n - (j + 1)) = factTo n j * (fact (n - (j + 1)) * (n - (j + 1) + 1))
    rw [show n - (j + 1) + 1 = n - j by omega, Nat.mul_assoc, Nat.mul_comm (n - j)]
theorem factTo_le {n : Nat} (h8 : n ≤ 8) (j : Nat) (hj : j ≤ n) : factTo n j ≤ 40320 := by
  have h1 := factTo_mul n j hj
  have h2 := fact_pos (n - j)
  have h3 := fact_le h8
  exact Nat.le_trans (Nat.le_mul_of_pos_right _ h2) (by omega)

set_option maxRecDepth 100000 in
set_option maxHeartbeats 1000000 in
theorem l1Fact_any (n : Nat) (h8 : n ≤ 8) (w : World) :
    Calls Try.prog 85 #[.int .i64 n] w fun e w' => e = .returned (.int .i64 (fact n)) ∧ w = w' := by
  go_enter Try.func85, Try.ntmps85
  go_wp2
  go_loopg [0, 3] n (fun q i c wr => ∃ j : Nat, j ≤ n ∧ q + j = n ∧ i = .int .i64 q ∧ c = .int .i64 (factTo n j) ∧ w = wr)
  case atStart => exact ⟨0, Nat.zero_le _, rfl, rfl, rfl, rfl⟩
  case round =>
    obtain ⟨j, hj, hq, rfl, rfl, rfl⟩ := hrel
    have HQ := Lib.hid hq
    have hb := factTo_le h8 j hj
    have hgk : gk ≤ 8 := by omega
    clear hq
    by_cases hlt : 1 < gk
    · obtain ⟨g', hg'⟩ : ∃ g', gk = g' + 1 := ⟨gk - 1, by omega⟩
      have e : (factTo n j : Int) * ((g' : Int) + 1) = ((factTo n (j + 1) : Nat) : Int) := by
        have := HQ.out
        simp [factTo, show n - j = g' + 1 by omega]
      have hb1 : (factTo n j : Int) * ((g' : Int) + 1) ≤ 40320 := by have := factTo_le h8 (j + 1) (by have := HQ.out; omega); omega
      have hb0 : 0 ≤ (factTo n j : Int) * ((g' : Int) + 1) := by omega
      subst hg'
      have E := Lib.hid e
      clear e
      go_wp2
      go_roundg g'
      case measure => omega
      case rel => exact ⟨j + 1, by have := HQ.out; omega, by have := HQ.out; omega, by go_num, by rw [E.out], rfl⟩
    · have hfin : factTo n j = fact n := by
        have := factTo_mul n j hj
        have h2 : n - j = gk := by have := HQ.out; omega
        have h3 : gk = 0 ∨ gk = 1 := by omega
        rw [h2] at this
        rcases h3 with rfl | rfl <;> simpa [fact] using this
      have HFIN := Lib.hid hfin
      clear hfin
      go_wp2
      go_ret
      exact ⟨by show Ending.returned (.int .i64 (factTo n j)) = _; rw [HFIN.out], rfl⟩
end Go.Proofs.Ytkeighlcdnfjcaa
namespace Go.Proofs.Ytkeighlcdnfjcaa
open Go.RowKit
set_option linter.unusedSimpArgs false

/-- eight digits behind the copy that moves all behind place p one place up -/
def moveF (h : Nat → Nat) (p : Nat) (i : Nat) : Nat := if i < p then h i else if i < 7 then h (i + 1) else h 7
theorem dig8_move (h : Nat → Nat) (p L : Nat) (hL : p + 1 + L = 8) : splice (dig8 h).toList p ((List.range L).map fun t => Value.int .u8 (h (p + 1 + t))) = (dig8 (moveF h p)).toList := by
  have hp : p = 0 ∨ p = 1 ∨ p = 2 ∨ p = 3 ∨ p = 4 ∨ p = 5 ∨ p = 6 ∨ p = 7 := by omega
  rcases hp with rfl | rfl | rfl | rfl | rfl | rfl | rfl | rfl
  · obtain rfl : L = 7 := by omega
    rfl
  · obtain rfl : L = 6 := by omega
    rfl
  · obtain rfl : L = 5 := by omega
    rfl
  · obtain rfl : L = 4 := by omega
    rfl
  · obtain rfl : L = 3 := by omega
    rfl
  · obtain rfl : L = 2 := by omega
    rfl
  · obtain rfl : L = 1 := by omega
    rfl
  · obtain rfl : L = 0 := by omega
    rfl
theorem slice_from (b p L : Nat) (hL : p + 1 + L = 8) : ∀ W, (Instr.sliceAt 56 (.pointer (some ⟨b, 0, none⟩)) (some (.int .i64 p)) none none).run Try.prog W = .ok (.slice (some ⟨b, p, none⟩) (L + 1) (L + 1)) W := by
  intro W
  have hA : Try.prog.arrayLen 56 = 8 := by kernel_rfl
  rw [run_sliceAt_array_l W _ _ Try.underlying56 .i64 _ (by omega) (by rw [hA]; omega)]
  have hs : (sizeOf (Try.prog.elem 56)).run Try.prog W = .ok 1 W := by kernel_rfl
  rw [hs, hA]
  simp [Result.andThen, slicedAt, Addr.add, show ¬ 8 = p by omega]
  exact ⟨fun e => e.symm, by omega⟩
theorem slice_from1 (b p L : Nat) (hL : p + 1 + L = 8) : ∃ ad : Addr, (∀ W, (Instr.sliceAt 56 (.pointer (some ⟨b, 0, none⟩)) (some (.int .i64 ((p : Int) + 1))) none none).run Try.prog W = .ok (.slice (some ad) L L) W) ∧ ∀ t, t < L → ad.add t = ⟨b, p + 1 + t, none⟩ := by
  refine ⟨if 8 = p + 1 then ⟨b, 0, none⟩ else (⟨b, 0, none⟩ : Addr).add (p + 1), fun W => ?_, fun t ht => ?_⟩
  · have hA : Try.prog.arrayLen 56 = 8 := by kernel_rfl
    rw [run_sliceAt_array_l W _ _ Try.underlying56 .i64 _ (by omega) (by rw [hA]; omega)]
    have hs : (sizeOf (Try.prog.elem 56)).run Try.prog W = .ok 1 W := by kernel_rfl
    rw [hs, hA]
    simp [Result.andThen, slicedAt, show ((p : Int) + 1).toNat = p + 1 from by omega]
    omega
  · rw [if_neg (by omega)]
    simp [Addr.add]

end Go.Proofs.Ytkeighlcdnfjcaa
namespace Go.Proofs.Ytkeighlcdnfjcaa
open Go.RowKit
set_option linter.unusedSimpArgs false

theorem str_drop (M : Nat) (h : Nat → Nat) (p : Nat) (hp : p ≤ M) : (strOf (M + 1) h).extract 0 p ++ (strOf (M + 1) h).extract (p + 1) (M + 1) = strOf M (dropF h p) := by
  have e : ((strOf (M + 1) h).extract 0 p ++ (strOf (M + 1) h).extract (p + 1) (M + 1)).data = (strOf M (dropF h p)).data := by
    rw [ByteArray.data_append, ByteArray.data_extract, ByteArray.data_extract]
    apply Array.ext
    · simp [strOf]; omega
    · intro i h1 h2
      have hi : i < M := by simpa [strOf] using h2
      by_cases hip : i < p
      · rw [Array.getElem_append_left (by simp [strOf]; omega)]
        simp [strOf, dropF, hip]
      · rw [Array.getElem_append_right (by simp [strOf]; omega)]
        simp [strOf, dropF, hip]
        rw [show p + 1 + (i - min p (M + 1)) = i + 1 by omega]
  cases h1 : ((strOf (M + 1) h).extract 0 p ++ (strOf (M + 1) h).extract (p + 1) (M + 1)); cases h2 : strOf M (dropF h p)
  rw [h1, h2] at e
  exact congrArg _ e

set_option maxRecDepth 100000 in
set_option maxHeartbeats 1000000 in
theorem sRowOf_yes (n k : Nat) (h3 : 3 ≤ n) (h8 : n ≤ 8) (hk : k < fact n) (w : World) :
    Calls Try.prog 84 #[.int .i64 n, .int .i64 k] w fun e w' => e = .returned (.tuple #[.string (strOf n (pickAt n k (rdf n))), .bool true]) ∧ Below w.heap.size w w' := by
  have h3' : (3 : Int) ≤ n := by omega
  have h8' : (n : Int) ≤ 8 := by omega
  have hf8 := fact_le h8
  have hk' : (k : Int) ≤ (fact n : Int) - 1 := by omega
  have HK := Lib.hid hk
  clear hk
  go_enter Try.func84, Try.ntmps84
  go_wp2_with (first | (go_at_call 65; refine (l1In_any _ _ _ _).mono ?_; rintro e w' ⟨rfl, rfl⟩) | (go_at_call 85; refine (l1Fact_any _ h8 _).mono ?_; rintro e w' ⟨rfl, rfl⟩) | (go_at_call 79; refine (l1Rounds_any n h8 _).mono ?_; rintro e w' ⟨rfl, rfl⟩; rw [← strOf_rdf]))
  go_loopg [1, 6, 7, 8, 9] n (fun q kk rest out _ _ wr => ∃ (j : Nat), j ≤ n ∧ q + j = n ∧ kk = .int .i64 (leftK n k j) ∧ rest = .string (strOf (n - j) (leftH n k (rdf n) j)) ∧ out = .string (strOf j (pickAt n k (rdf n))) ∧ Below w.heap.size w wr)
  case atStart => exact ⟨0, Nat.zero_le _, rfl, rfl, rfl, rfl, Below.refl _ _⟩
  case round =>
    obtain ⟨j, hj, hq, rfl, rfl, rfl, hb⟩ := hrel
    have HQ := Lib.hid hq
    have HB := Lib.hid hb
    clear hq hb
    by_cases hlt : j < n
    · have hp1 := pick_lt HK.out j hlt
      have hF1 := fact_pos (n - (j + 1))
      have hF2 := fact_le (show n - (j + 1) ≤ 8 by omega)
      have hKl := leftK_lt HK.out j hj
      have hK2 := fact_le (show n - j ≤ 8 by omega)
      have hpick : leftH n k (rdf n) j (leftK n k j / fact (n - (j + 1))) = pickAt n k (rdf n) j := rfl
      have hKs : leftK n k (j + 1) = leftK n k j % fact (n - (j + 1)) := rfl
      have hHs : leftH n k (rdf n) (j + 1) = dropF (leftH n k (rdf n) j) (leftK n k j / fact (n - (j + 1))) := rfl
      obtain ⟨M, hM⟩ : ∃ M, n - j = M + 1 := ⟨n - (j + 1), by omega⟩
      have hM2 : n - (j + 1) = M := by omega
      have hM7 : M ≤ 7 := by omega
      rw [hM2] at hp1 hF1 hF2 hpick hKs hHs
      rw [hM] at hp1 hKl hK2
      rw [hM]
      have HM2 := Lib.hid hM2
      have HKS := Lib.hid hKs
      have HHS := Lib.hid hHs
      have HP := Lib.hid hpick
      clear hKs hHs hpick hM hM2
      generalize hKe : leftK n k j = K at *
      generalize hFe : fact M = F at *
      obtain ⟨p, hp⟩ : ∃ p, K / F = p := ⟨_, rfl⟩
      obtain ⟨r, hr⟩ : ∃ r, K % F = r := ⟨_, rfl⟩
      rw [hp] at hp1 HHS HP
      rw [hr] at HKS
      have hpi : (K : Int) / (F : Int) = p := by rw [← hp]; simp
      have hri : (K : Int) % (F : Int) = r := by rw [← hr]; simp
      have HKe := Lib.hid hKe
      have HFe := Lib.hid hFe
      have HR := Lib.hid hri
      clear hKe hFe hp hr
      have hFi : (1 : Int) ≤ F := by omega
      have hdrop := str_drop M (leftH n k (rdf n) j) p (by omega)
      have hsz := strOf_size (M + 1) (leftH n k (rdf n) j)
      have hsz2 := strOf_size j (pickAt n k (rdf n))
      have hone := strOf_snoc j (pickAt n k (rdf n)) ((strOf (M + 1) (leftH n k (rdf n) j)).extract p (p + 1)) (by
        rw [extract_one _ p (by rw [strOf_size]; omega)]
        have : (strOf (M + 1) (leftH n k (rdf n) j))[p]'(by rw [strOf_size]; omega) = UInt8.ofNat (pickAt n k (rdf n) j) := by
          rw [← HP.out]
          show (strOf (M + 1) (leftH n k (rdf n) j)).data[p]'_ = _
          simp [strOf]
        rw [this])
      generalize strOf (M + 1) (leftH n k (rdf n) j) = R at *
      have hp2 : (p : Int) + 1 ≤ (M : Int) + 1 := by omega
      go_wp2_with fail
      refine (l1Fact_any M (by omega) _).mono ?_
      rintro e w' ⟨rfl, rfl⟩
      rw [HFe.out]
      go_wp2
      have hwp : IntKind.i64.wrap ((p : Int) + 1) = (p : Int) + 1 := IntWalk.i64_in _ (by omega)
      go_quiet (fail)
      clear hwp
      go_wp2
      go_roundg (n - (j + 1))
      case measure => have := HQ.out; omega
      case rel => exact ⟨j + 1, by omega, by have := HQ.out; omega, by rw [HKS.out, HR.out], by rw [HM2.out, HHS.out], rfl, below_drewN HB.out _⟩
    · obtain rfl : j = n := by omega
      have hsz := strOf_size (j - j) (leftH j k (rdf j) j)
      have hjj : j - j = 0 := by omega
      go_wp2
      go_ret2
      exact ⟨rfl, HB.out⟩

set_option maxRecDepth 100000 in
set_option maxHeartbeats 1000000 in
theorem sRowOf_no (n k : Int) (h : ¬ (3 ≤ n ∧ n ≤ 8 ∧ 0 ≤ k ∧ k < fact n.toNat)) (w : World) :
    Calls Try.prog 84 #[.int .i64 n, .int .i64 k] w fun e w' => e = .returned (.tuple #[.string ⟨#[]⟩, .bool false]) ∧ w = w' := by
  by_cases hn : 3 ≤ n ∧ n ≤ 8
  · obtain ⟨h3, h8⟩ := hn
    obtain ⟨m, rfl⟩ := Int.eq_ofNat_of_zero_le (show 0 ≤ n by omega)
    have h8n : m ≤ 8 := by omega
    have hf8 := fact_le h8n
    have hd : (decide (0 ≤ k) && decide (k ≤ (fact m : Int) - 1)) = false := by simp at h; simp; omega
    clear h
    go_enter Try.func84, Try.ntmps84
    go_wp2_with (first | (go_at_call 65; refine (l1In_any _ _ _ _).mono ?_; rintro e w' ⟨rfl, rfl⟩) | (go_at_call 85; refine (l1Fact_any _ h8n _).mono ?_; rintro e w' ⟨rfl, rfl⟩))
    go_ret2
    exact ⟨rfl, rfl⟩
  · have hd : (decide (3 ≤ n) && decide (n ≤ 8)) = false := by simp; omega
    clear h
    go_enter Try.func84, Try.ntmps84
    go_wp2_with (first | (go_at_call 65; refine (l1In_any _ _ _ _).mono ?_; rintro e w' ⟨rfl, rfl⟩))
    go_ret2
    exact ⟨rfl, rfl⟩

end Go.Proofs.Ytkeighlcdnfjcaa
namespace Go.Proofs.Ytkeighlcdnfjcaa

def sumN (F : Nat → Nat) : Nat → Nat
  | 0 => 0
  | n + 1 => sumN F n + F n
theorem sumN_congr {F G : Nat → Nat} : ∀ n, (∀ i, i < n → F i = G i) → sumN F n = sumN G n
  | 0, _ => rfl
  | n + 1, h => by
    show sumN F n + F n = sumN G n + G n
    rw [sumN_congr n (fun i hi => h i (by omega)), h n (by omega)]
theorem sumN_add (F G : Nat → Nat) : ∀ n, sumN (fun i => F i + G i) n = sumN F n + sumN G n
  | 0 => rfl
  | n + 1 => by
    show sumN (fun i => F i + G i) n + (F n + G n) = (sumN F n + F n) + (sumN G n + G n)
    rw [sumN_add F G n]; omega
theorem sumN_put (F : Nat → Nat) (x i0 : Nat) : ∀ n, i0 < n → sumN (fun i => if i = i0 then x else F i) n + F i0 = sumN F n + x
  | 0, h => by omega
  | n + 1, h => by
    show sumN (fun i => if i = i0 then x else F i) n + (if n = i0 then x else F n) + F i0 = sumN F n + F n + x
    by_cases e : n = i0
    · subst e
      rw [if_pos rfl, sumN_congr n (F := fun i => if i = n then x else F i) (G := F) (fun i hi => by simp; omega)]
      omega
    · have ih := sumN_put F x i0 n (by omega)
      rw [if_neg e]; omega
/-- a sum in another order -/
theorem sumN_perm (G : Nat → Nat) : ∀ (n : Nat) (g : Nat → Nat), (∀ i, i < n → g i < n) → (∀ i j, i < n → j < n → g i = g j → i = j) → sumN (fun i => G (g i)) n = sumN G n
  | 0, _, _, _ => rfl
  | n + 1, g, hb, hi => by
    obtain ⟨i0, h0, e0⟩ := pigeon (n + 1) g hb hi n (by omega)
    by_cases hn : i0 = n
    · subst hn
      show sumN (fun i => G (g i)) i0 + G (g i0) = sumN G i0 + G i0
      rw [e0, sumN_perm G i0 g (fun i hin => by
        have h1 := hb i (by omega)
        by_cases q : g i = i0
        · have := hi i i0 (by omega) (by omega) (by omega); omega
        · omega) (fun i j a b c => hi i j (by omega) (by omega) c)]
    · have ih := sumN_perm G n (fun i => if i = i0 then g n else g i) (fun i hin => by
          have h1 := hb i (by omega)
          have h2 := hb n (by omega)
          try dsimp only
          split
          · rename_i e
            by_cases q : g n = n
            · have := hi n i0 (by omega) h0 (by omega); omega
            · omega
          · rename_i e
            by_cases q : g i = n
            · have := hi i i0 (by omega) h0 (by omega); omega
            · omega) (fun i j hin hjn e => by
          try dsimp only at e
          split at e <;> split at e
          · omega
          · have := hi n j (by omega) (by omega) e; omega
          · have := hi i n (by omega) (by omega) e; omega
          · exact hi i j (by omega) (by omega) e)
      have hput := sumN_put (fun i => G (g i)) (G (g n)) i0 n (by omega)
      have hsame : sumN (fun i => G (if i = i0 then g n else g i)) n = sumN (fun i => if i = i0 then G (g n) else G (g i)) n :=
        sumN_congr n fun i _ => by split <;> rfl
      show sumN (fun i => G (g i)) n + G (g n) = sumN G n + G n
      rw [← ih, hsame, ← hput, e0]

/-- the sum over all pairs i < j below n -/
def sumT (F : Nat → Nat → Nat) (n : Nat) : Nat := sumN (fun j => sumN (fun i => F i j) j) n
theorem sumT_succ (F : Nat → Nat → Nat) (n : Nat) : sumT F (n + 1) = sumT F n + sumN (fun i => F i n) n := rfl
theorem sumT_all (F : Nat → Nat → Nat) (hs : ∀ i j, F i j = F j i) (hd : ∀ i, F i i = 0) : ∀ n, sumN (fun i => sumN (fun j => F i j) n) n = 2 * sumT F n
  | 0 => rfl
  | n + 1 => by
    have ih := sumT_all F hs hd n
    show sumN (fun i => sumN (fun j => F i j) n + F i n) n + (sumN (fun j => F n j) n + F n n) = _
    rw [sumN_add, ih, hd n, sumT_succ, sumN_congr n (F := fun j => F n j) (G := fun i => F i n) (fun i _ => hs n i)]
    omega
theorem sumT_perm (F : Nat → Nat → Nat) (hs : ∀ i j, F i j = F j i) (hd : ∀ i, F i i = 0) (n : Nat) (g : Nat → Nat) (hb : ∀ i, i < n → g i < n) (hi : ∀ i j, i < n → j < n → g i = g j → i = j) :
    sumT (fun i j => F (g i) (g j)) n = sumT F n := by
  have h1 := sumT_all F hs hd n
  have h2 := sumT_all (fun i j => F (g i) (g j)) (fun i j => hs _ _) (fun i => hd _) n
  have h3 : sumN (fun i => sumN (fun j => F (g i) (g j)) n) n = sumN (fun i => sumN (fun j => F i j) n) n := by
    rw [sumN_congr n (G := fun i => sumN (fun j => F (g i) j) n) (fun i _ => sumN_perm (fun j => F (g i) j) n g hb hi)]
    exact sumN_perm (fun a => sumN (fun j => F a j) n) n g hb hi
  omega
theorem sumN_mod {F G : Nat → Nat} : ∀ n, (∀ i, i < n → F i % 2 = G i % 2) → sumN F n % 2 = sumN G n % 2
  | 0, _ => rfl
  | n + 1, h => by
    show (sumN F n + F n) % 2 = (sumN G n + G n) % 2
    have := sumN_mod n (fun i hi => h i (by omega))
    have := h n (by omega)
    omega
theorem sumT_mod {F G : Nat → Nat → Nat} (n : Nat) (h : ∀ i j, i < j → j < n → F i j % 2 = G i j % 2) : sumT F n % 2 = sumT G n % 2 :=
  sumN_mod n fun j hj => sumN_mod j fun i hi => h i j hi hj
theorem sumT_add (F G : Nat → Nat → Nat) (n : Nat) : sumT (fun i j => F i j + G i j) n = sumT F n + sumT G n := by
  unfold sumT
  rw [← sumN_add]
  exact sumN_congr n fun j _ => sumN_add _ _ j

def invP (f : Nat → Nat) (i j : Nat) : Nat := if f j < f i then 1 else 0
theorem cntGt_sum (f : Nat → Nat) (v : Nat) : ∀ n, cntGt f v n = sumN (fun i => if v < f i then 1 else 0) n
  | 0 => rfl
  | n + 1 => by
    show cntGt f v n + _ = sumN _ n + _
    rw [cntGt_sum f v n]
theorem invB_sum (f : Nat → Nat) : ∀ n, invB f n = sumT (invP f) n
  | 0 => rfl
  | n + 1 => by
    show invB f n + cntGt f (f n) n = sumT (invP f) n + _
    rw [invB_sum f n, cntGt_sum]; rfl
def symP (f : Nat → Nat) (a b : Nat) : Nat := if a < b then invP f a b else if b < a then invP f b a else 0
theorem invB_mul {n : Nat} {f g : Nat → Nat} (hf : IsRow n f) (hg : IsRow n g) : invB (mulR n f g) n % 2 = (invB f n + invB g n) % 2 := by
  have hsym : sumT (symP f) n = sumT (invP f) n := by
    unfold sumT
    exact sumN_congr n fun j _ => sumN_congr j fun i hi => by simp [symP, hi]
  have hperm := sumT_perm (symP f) (fun i j => by unfold symP; split <;> split <;> first | rfl | omega) (fun i => by simp [symP]) n (fun i => g i - 49)
    (fun i hi => by have := hg.lo i hi; have := hg.hi i hi; omega) (fun i j hi hj e => hg.inj i j hi hj (by have := hg.lo i hi; have := hg.lo j hj; omega))
  rw [invB_sum, invB_sum, invB_sum, ← hsym, ← hperm, ← sumT_add]
  refine sumT_mod n fun i j hij hj => ?_
  have hi : i < n := by omega
  have l1 := hg.lo i hi
  have l2 := hg.lo j hj
  have u1 := hg.hi i hi
  have u2 := hg.hi j hj
  have hne : g i ≠ g j := fun e => by have := hg.inj i j hi hj e; omega
  have hfne : f (g i - 49) ≠ f (g j - 49) := fun e => by have := hf.inj _ _ (by omega) (by omega) e; omega
  unfold symP invP
  rw [mulR_at _ _ hi, mulR_at _ _ hj]
  by_cases h1 : g i < g j
  · rw [if_pos (show g i - 49 < g j - 49 by omega), if_neg (show ¬ g j < g i by omega), Nat.add_zero]
  · rw [if_neg (show ¬ g i - 49 < g j - 49 by omega), if_pos (show g j - 49 < g i - 49 by omega), if_pos (show g j < g i by omega)]
    by_cases h2 : f (g j - 49) < f (g i - 49)
    · rw [if_pos h2, if_neg (by omega)]
    · rw [if_neg h2, if_pos (by omega)]
theorem even_mul {n : Nat} {f g : Nat → Nat} (hf : IsRow n f) (hg : IsRow n g) : evenB (invB (mulR n f g) n) = (evenB (invB f n) == evenB (invB g n)) := by
  have := invB_mul hf hg
  unfold evenB
  have h1 : invB f n % 2 = 0 ∨ invB f n % 2 = 1 := by omega
  have h2 : invB g n % 2 = 0 ∨ invB g n % 2 = 1 := by omega
  rcases h1 with h1 | h1 <;> rcases h2 with h2 | h2 <;> simp [this, h1, h2, Nat.add_mod]
end Go.Proofs.Ytkeighlcdnfjcaa
namespace Go.Proofs.Ytkeighlcdnfjcaa

/-- how many digits behind place i are less than the one there -/
def lessAt (f : Nat → Nat) (n i : Nat) : Nat := cntLt f (f i) (i + 1) (n - (i + 1))
def placeA (f : Nat → Nat) (n : Nat) : Nat → Nat
  | 0 => 0
  | k + 1 => placeA f n k + lessAt f n k * fact (n - (k + 1))
def placeB (f : Nat → Nat) (n : Nat) : Nat → Nat
  | 0 => 0
  | k + 1 => placeB f n k * (n - k) + lessAt f n k
theorem place_same (f : Nat → Nat) (n : Nat) : ∀ k, k ≤ n → placeB f n k * fact (n - k) = placeA f n k
  | 0, _ => by simp [placeB, placeA]
  | k + 1, h => by
    have ih := place_same f n k (by omega)
    show (placeB f n k * (n - k) + lessAt f n k) * fact (n - (k + 1)) = placeA f n k + lessAt f n k * fact (n - (k + 1))
    rw [← ih, Nat.add_mul, show n - k = (n - (k + 1)) + 1 by omega]
    show _ = placeB f n k * (fact (n - (k + 1)) * (n - (k + 1) + 1)) + _
    rw [Nat.mul_assoc, Nat.mul_comm (n - (k + 1) + 1)]
theorem place_end (f : Nat → Nat) (n : Nat) : placeB f n n = placeA f n n := by
  have := place_same f n n (Nat.le_refl _)
  simpa [fact] using this
theorem lessAt_le (f : Nat → Nat) (n i : Nat) : lessAt f n i ≤ n := Nat.le_trans (cntLt_le _ _ _ _) (by omega)
theorem placeA_le {n : Nat} (f : Nat → Nat) (h8 : n ≤ 8) : ∀ k, placeA f n k ≤ k * 322560
  | 0 => Nat.le_refl _
  | k + 1 => by
    have ih := placeA_le f h8 k
    have h1 := lessAt_le f n k
    have h2 := fact_le (show n - (k + 1) ≤ 8 by omega)
    have h3 : lessAt f n k * fact (n - (k + 1)) ≤ 8 * 40320 := Nat.mul_le_mul (by omega) h2
    show placeA f n k + _ ≤ _
    omega
theorem placeB_le {n : Nat} (f : Nat → Nat) (h8 : n ≤ 8) (k : Nat) (hk : k ≤ n) : placeB f n k ≤ 2580480 := by
  have h1 := place_same f n k hk
  have h2 := placeA_le f h8 k
  have h3 := fact_pos (n - k)
  have h4 : placeB f n k ≤ placeB f n k * fact (n - k) := Nat.le_mul_of_pos_right _ h3
  omega
theorem lessAt_mul_le {n : Nat} (f : Nat → Nat) (h8 : n ≤ 8) (k : Nat) : lessAt f n k * fact (n - (k + 1)) ≤ 322560 := by
  have h1 := lessAt_le f n k
  have h2 := fact_le (show n - (k + 1) ≤ 8 by omega)
  exact Nat.mul_le_mul (show lessAt f n k ≤ 8 by omega) h2
end Go.Proofs.Ytkeighlcdnfjcaa
namespace Go.Proofs.Ytkeighlcdnfjcaa
open Go.RowKit
set_option linter.unusedSimpArgs false

end Go.Proofs.Ytkeighlcdnfjcaa
