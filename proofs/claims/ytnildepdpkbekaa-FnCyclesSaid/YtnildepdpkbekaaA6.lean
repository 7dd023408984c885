/- The program's own test for a row. -/
import Derived.Test.YtnildepdpkbekaaA5
namespace Go.Proofs.Ytnildepdpkbekaa
open Go.RowKit

/-- eight marks as cells -/
def bool8 (f : Nat → Bool) : Array Value := #[.bool (f 0), .bool (f 1), .bool (f 2), .bool (f 3), .bool (f 4), .bool (f 5), .bool (f 6), .bool (f 7)]
theorem bool8_get (f : Nat → Bool) : ∀ i, i < 8 → (bool8 f)[i]? = some (.bool (f i)) := by
  intro i h
  have : i = 0 ∨ i = 1 ∨ i = 2 ∨ i = 3 ∨ i = 4 ∨ i = 5 ∨ i = 6 ∨ i = 7 := by omega
  rcases this with rfl | rfl | rfl | rfl | rfl | rfl | rfl | rfl <;> rfl
def markAt (f : Nat → Bool) (b : Nat) (i : Nat) : Bool := if i = b then true else f i
theorem bool8_set (f : Nat → Bool) : ∀ b, b < 8 → (bool8 f).setIfInBounds b (.bool true) = bool8 (markAt f b) := by
  intro i h
  have : i = 0 ∨ i = 1 ∨ i = 2 ∨ i = 3 ∨ i = 4 ∨ i = 5 ∨ i = 6 ∨ i = 7 := by omega
  rcases this with rfl | rfl | rfl | rfl | rfl | rfl | rfl | rfl <;> rfl

set_option maxRecDepth 100000 in
set_option maxHeartbeats 1000000 in
theorem iGoodRow_any (s : ByteArray) (hs : s.size ≤ maxLen) (w : World) :
    Calls Try.prog 80 #[.string s] w fun e w' => e = .returned (.bool (goodB s)) ∧ Below w.heap.size w w' := by
  unfold maxLen at hs
  by_cases hsz : 3 ≤ s.size ∧ s.size ≤ 8
  · obtain ⟨h3, h8⟩ := hsz
    have h3' : (3 : Int) ≤ s.size := by omega
    have h8' : (s.size : Int) ≤ 8 := by omega
    have hat := dg_at s
    generalize hd : dg s = f at *
    have HD := Lib.hid hd
    clear hd
    go_enter Try.func80, Try.ntmps80
    go_wp2_with (first | (go_at_call 57; refine (goodStage_any _ _).mono ?_; rintro e w' ⟨rfl, rfl⟩))
    go_loopg [4, 5, 12] s.size (fun g _ _ i wr => ∃ (k : Nat) (sn : Nat → Bool), k ≤ s.size ∧ g + k = s.size ∧ i = .int .i64 k ∧ OkTo s.size f k ∧ (∀ b, b < 8 → (sn b = true ↔ ∃ j, j < k ∧ f j = 49 + b)) ∧ wr = w.alloc (.cells (bool8 sn) 93))
    case atStart => exact ⟨0, fun _ => false, Nat.zero_le _, rfl, rfl, fun k hk => absurd hk (Nat.not_lt_zero _), fun b _ => by simp, rfl⟩
    case round =>
      obtain ⟨k, sn, hk, hg, rfl, hok, hsn, rfl⟩ := hrel
      have HG := Lib.hid hg
      clear hg
      have HOK := Lib.hid hok
      clear hok
      have HSN := Lib.hid hsn
      clear hsn
      have hbyte : (f k : Int) < 256 := by have := dg_lt s k; rw [HD.out] at this; omega
      have hbad : ∀ i, i < s.size → ¬ (49 ≤ f i ∧ f i ≤ 48 + s.size ∧ ∀ j, j < i → f j ≠ f i) → goodB s = false := fun i hi hn =>
        goodB_no (fun h => hn (by have := h.ok i hi; rw [HD.out] at this; exact this))
      have HB := Lib.hid hbad
      clear hbad
      have hbel : ∀ o, Below w.heap.size w (w.alloc o) := fun o => (Below.refl _ _).alloc (Nat.le_refl _) o
      have HBEL := Lib.hid hbel
      clear hbel
      by_cases hlt : k < s.size
      · by_cases hlo : f k < 49
        · have hlo' : (f k : Int) - 49 < 0 := by omega
          go_wp2
          go_ret
          exact ⟨by rw [HB.out k hlt (by omega)]; rfl, HBEL.out _⟩
        · have hlo' : (49 : Int) ≤ f k := by omega
          have hlo2 : ¬ ((f k : Int) - 49 < 0) := by omega
          by_cases hhi : 48 + s.size < f k
          · have hhi' : (s.size : Int) ≤ (f k : Int) - 49 := by omega
            go_wp2
            go_ret
            exact ⟨by rw [HB.out k hlt (by omega)]; rfl, HBEL.out _⟩
          · have hhi' : (f k : Int) - 49 < (s.size : Int) := by omega
            obtain ⟨b, hb⟩ : ∃ b : Nat, f k = 49 + b := ⟨f k - 49, by omega⟩
            have hb8 : b < 8 := by omega
            have hbi : (f k : Int) - 49 = (b : Int) := by omega
            have hbn : ((f k : Int) - 49).toNat = b := by omega
            have HBN := Lib.hid hb
            clear hb
            have hget := bool8_get sn b hb8
            have hset := bool8_set sn b hb8
            by_cases hseen : sn b = true
            · obtain ⟨j, hj1, hj2⟩ := (HSN.out b hb8).1 hseen
              have HJ := Lib.hid hj2
              clear hj2
              go_wp2
              go_ret
              exact ⟨by rw [HB.out k hlt (fun h => h.2.2 j hj1 (by rw [HJ.out, HBN.out]))]; rfl, HBEL.out _⟩
            · have hseen' : sn b = false := by simpa using hseen
              clear hseen
              go_wp2
              go_roundg (s.size - (k + 1))
              case measure => have := HG.out; omega
              case rel =>
                refine ⟨k + 1, markAt sn b, by omega, by have := HG.out; omega, by go_num, okTo_succ HOK.out (by omega) (by omega) ?_, ?_, by rfl⟩
                · intro j hj hjk
                  have : sn b = true := (HSN.out b hb8).2 ⟨j, hj, by rw [hjk, HBN.out]⟩
                  rw [hseen'] at this; cases this
                · intro c hc
                  unfold markAt
                  by_cases e : c = b
                  · subst e; simp; exact ⟨k, by omega, HBN.out⟩
                  · rw [if_neg e, HSN.out c hc]
                    constructor
                    · rintro ⟨j, h1, h2⟩; exact ⟨j, by omega, h2⟩
                    · rintro ⟨j, h1, h2⟩
                      by_cases ej : j = k
                      · subst ej; have := HBN.out; omega
                      · exact ⟨j, by omega, h2⟩
      · obtain rfl : k = s.size := by omega
        have hgood := Lib.hid (goodB_yes (s := s) (by rw [HD.out]; exact ⟨h3, h8, HOK.out, fun i hi => by rw [← HD.out]; simp [dg]; omega⟩))
        go_wp2
        go_ret
        exact ⟨by rw [hgood.out]; rfl, HBEL.out _⟩
  · have hd : (decide (3 ≤ (s.size : Int)) && decide ((s.size : Int) ≤ 8)) = false := by simp; omega
    have hgood := Lib.hid (goodB_no (s := s) (fun h => hsz ⟨h.three, h.eight⟩))
    clear hsz
    go_enter Try.func80, Try.ntmps80
    go_wp2_with (first | (go_at_call 57; refine (goodStage_any _ _).mono ?_; rintro e w' ⟨rfl, rfl⟩))
    go_ret
    exact ⟨by rw [hgood.out]; rfl, Below.refl _ _⟩
end Go.Proofs.Ytnildepdpkbekaa
