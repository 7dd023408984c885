/- slices.Sort and slices.Contains on numbers; orbits in the program. -/
import Derived.Shelf.SortM.Plain
import Derived.Shelf.SortM.SortNone
import Derived.Shelf.SlicesE.Index
import Derived.Sort.OwnSortedInts
import Derived.Test.YtjmdfmajfaiklaaOA
import Derived.Test.YtjmdfmajfaiklaaSB
namespace Go.Proofs.Ytjmdfmajfaiklaa
open Go.RowKit
set_option linter.unusedSimpArgs false
set_option linter.unusedVariables false
def laysSortI_ren : Go.Shelf.Ren := ⟨fun | 5 => 109 | 8 => 112 | 7 => 118 | 19 => 128 | 20 => 129 | 10 => 132 | 11 => 133 | 12 => 134 | 13 => 135 | 14 => 136 | 15 => 137 | 16 => 138 | 17 => 139 | 18 => 140 | 30 => 155 | 31 => 142 | 32 => 143 | 33 => 156 | 34 => 157 | 35 => 158 | 40 => 163 | n => n, fun | 23 => 61 | 25 => 3 | 3 => 3 | 32 => 106 | 22 => 61 | 0 => 0 | 44 => 121 | 46 => 55 | 4 => 4 | 36 => 114 | 35 => 113 | 41 => 31 | 5 => 5 | 9 => 9 | 53 => 130 | 57 => 134 | 63 => 143 | 64 => 144 | n => n, fun | n => n⟩
theorem laysSortI : Go.Proofs.SlLaysM.n5 Try.prog laysSortI_ren := {
  mixed := by kernel_rfl
  f5 := ⟨Try.f109.name, by decide, Try.func109.trans (congrArg some (by kernel_rfl))⟩
  f7 := ⟨Try.f118.name, by decide, Try.func118.trans (congrArg some (by kernel_rfl))⟩
  f8 := Try.func112.trans (congrArg some (by kernel_rfl))
  f10 := ⟨Try.f132.name, by decide, Try.func132.trans (congrArg some (by kernel_rfl))⟩
  f11 := ⟨Try.f133.name, by decide, Try.func133.trans (congrArg some (by kernel_rfl))⟩
  f12 := ⟨Try.f134.name, by decide, Try.func134.trans (congrArg some (by kernel_rfl))⟩
  f13 := ⟨Try.f135.name, by decide, Try.func135.trans (congrArg some (by kernel_rfl))⟩
  f14 := ⟨Try.f136.name, by decide, Try.func136.trans (congrArg some (by kernel_rfl))⟩
  f15 := ⟨Try.f137.name, by decide, Try.func137.trans (congrArg some (by kernel_rfl))⟩
  f16 := ⟨Try.f138.name, by decide, Try.func138.trans (congrArg some (by kernel_rfl))⟩
  f17 := ⟨Try.f139.name, by decide, Try.func139.trans (congrArg some (by kernel_rfl))⟩
  f18 := ⟨Try.f140.name, by decide, Try.func140.trans (congrArg some (by kernel_rfl))⟩
  f19 := Try.func128.trans (congrArg some (by kernel_rfl))
  f20 := Try.func129.trans (congrArg some (by kernel_rfl))
  f30 := ⟨Try.f155.name, by decide, Try.func155.trans (congrArg some (by kernel_rfl))⟩
  f31 := Try.func142.trans (congrArg some (by kernel_rfl))
  f32 := Try.func143.trans (congrArg some (by kernel_rfl))
  f33 := ⟨Try.f156.name, by decide, Try.func156.trans (congrArg some (by kernel_rfl))⟩
  f34 := ⟨Try.f157.name, by decide, Try.func157.trans (congrArg some (by kernel_rfl))⟩
  f35 := ⟨Try.f158.name, by decide, Try.func158.trans (congrArg some (by kernel_rfl))⟩
  f40 := ⟨Try.f163.name, by decide, Try.func163.trans (congrArg some (by kernel_rfl))⟩
  t0 := Try.underlying0
  a0 := Try.isAgg0
  z0 := Try.sizeOf0
  v0 := Try.zeroValue0
  t3 := Try.underlying3
  a3 := Try.isAgg3
  z3 := Try.sizeOf3
  v3 := Try.zeroValue3
  t4 := Try.underlying4
  a4 := Try.isAgg4
  z4 := Try.sizeOf4
  v4 := Try.zeroValue4
  t5 := Try.underlying5
  a5 := Try.isAgg5
  z5 := Try.sizeOf5
  v5 := Try.zeroValue5
  t9 := Try.underlying9
  a9 := Try.isAgg9
  z9 := Try.sizeOf9
  v9 := Try.zeroValue9
  t22 := Try.underlying61
  a22 := Try.isAgg61
  z22 := Try.sizeOf61
  v22 := Try.zeroValue61
  t23 := Try.underlying61
  a23 := Try.isAgg61
  z23 := Try.sizeOf61
  v23 := Try.zeroValue61
  t25 := Try.underlying3
  a25 := Try.isAgg3
  z25 := Try.sizeOf3
  v25 := Try.zeroValue3
  t32 := Try.underlying106
  a32 := Try.isAgg106
  z32 := Try.sizeOf106
  v32 := Try.zeroValue106
  t35 := Try.underlying113
  a35 := Try.isAgg113
  z35 := Try.sizeOf113
  v35 := Try.zeroValue113
  t36 := Try.underlying114
  a36 := Try.isAgg114
  z36 := Try.sizeOf114
  v36 := Try.zeroValue114
  t41 := Try.underlying31
  a41 := Try.isAgg31
  z41 := Try.sizeOf31
  v41 := Try.zeroValue31
  t44 := Try.underlying121
  a44 := Try.isAgg121
  z44 := Try.sizeOf121
  v44 := Try.zeroValue121
  t46 := Try.underlying55
  a46 := Try.isAgg55
  z46 := Try.sizeOf55
  v46 := Try.zeroValue55
  t53 := Try.underlying130
  a53 := Try.isAgg130
  z53 := Try.sizeOf130
  v53 := Try.zeroValue130
  t57 := Try.underlying134
  a57 := Try.isAgg134
  z57 := Try.sizeOf134
  v57 := Try.zeroValue134
  t63 := Try.underlying143
  a63 := Try.isAgg143
  z63 := Try.sizeOf143
  v63 := Try.zeroValue143
  t64 := Try.underlying144
  a64 := Try.isAgg144
  z64 := Try.sizeOf144
  v64 := Try.zeroValue144 }
def laysHasI_ren : Go.Shelf.Ren := ⟨fun | 31 => 108 | 29 => 117 | n => n, fun | 22 => 61 | 23 => 3 | 4 => 4 | 3 => 3 | 0 => 0 | n => n, fun | n => n⟩
theorem laysHasI : Go.Proofs.SlLaysE.n31 Try.prog laysHasI_ren := {
  mixed := by kernel_rfl
  f29 := ⟨Try.f117.name, by decide, Try.func117.trans (congrArg some (by kernel_rfl))⟩
  f31 := ⟨Try.f108.name, by decide, Try.func108.trans (congrArg some (by kernel_rfl))⟩
  t0 := Try.underlying0
  a0 := Try.isAgg0
  z0 := Try.sizeOf0
  v0 := Try.zeroValue0
  t3 := Try.underlying3
  a3 := Try.isAgg3
  z3 := Try.sizeOf3
  v3 := Try.zeroValue3
  t4 := Try.underlying4
  a4 := Try.isAgg4
  z4 := Try.sizeOf4
  v4 := Try.zeroValue4
  t22 := Try.underlying61
  a22 := Try.isAgg61
  z22 := Try.sizeOf61
  v22 := Try.zeroValue61
  a23 := Try.isAgg3
  z23 := Try.sizeOf3 }
def numsV (l : List Nat) : List Int := l.map fun x : Nat => (x : Int)
theorem numsV_len (l : List Nat) : (numsV l).length = l.length := by simp [numsV]
/-- the numbers of 1 to n that lie in l, in order -/
def incL (n : Nat) (l : List Nat) : List Nat := ((List.range n).map (· + 1)).filter fun x => decide (x ∈ l)
theorem mem_incL {n : Nat} {l : List Nat} {x : Nat} : x ∈ incL n l ↔ (1 ≤ x ∧ x ≤ n) ∧ x ∈ l := by
  unfold incL
  rw [List.mem_filter, List.mem_map, decide_eq_true_eq]
  constructor
  · rintro ⟨⟨i, hi, rfl⟩, h⟩
    have := List.mem_range.1 hi
    exact ⟨by omega, h⟩
  · rintro ⟨⟨h1, h2⟩, h⟩
    exact ⟨⟨x - 1, List.mem_range.2 (by omega), by omega⟩, h⟩
theorem incL_up (n : Nat) (l : List Nat) : (incL n l).Pairwise (· < ·) := by
  unfold incL
  refine List.Pairwise.filter _ ?_
  rw [List.pairwise_map]
  exact List.Pairwise.imp (fun {a b} h => by omega) List.pairwise_lt_range
theorem ints_unique : ∀ {a b : List Int}, a.Perm b → a.Pairwise (· ≤ ·) → b.Pairwise (· ≤ ·) → a = b
  | [], b, p, _, _ => (List.perm_nil.1 p.symm).symm
  | x :: a, b, p, ha, hb => by
    cases b with
    | nil => exact absurd (List.perm_nil.1 p) (by simp)
    | cons y b =>
      obtain ⟨f1, f2⟩ := List.pairwise_cons.1 ha
      obtain ⟨g1, g2⟩ := List.pairwise_cons.1 hb
      have hxy : x ≤ y := by
        rcases List.mem_cons.1 (p.mem_iff.2 (List.mem_cons_self (a := y) (l := b))) with e | e
        · omega
        · exact f1 y e
      have hyx : y ≤ x := by
        rcases List.mem_cons.1 (p.mem_iff.1 (List.mem_cons_self (a := x) (l := a))) with e | e
        · omega
        · exact g1 x e
      obtain rfl : x = y := by omega
      rw [ints_unique ((List.perm_cons x).1 p) f2 g2]
theorem sort_incL {n : Nat} {l : List Nat} (hn : l.Nodup) (h : InN n l) : ((numsV l).mergeSort fun x y => decide (x ≤ y)) = numsV (incL n l) := by
  have hp : l.Perm (incL n l) := (List.perm_ext_iff_of_nodup hn ((incL_up n l).imp fun {a b} h => by omega)).2 fun x => by
    rw [mem_incL]
    exact ⟨fun hx => ⟨h x hx, hx⟩, fun hx => hx.2⟩
  refine ints_unique ((List.mergeSort_perm _ _).trans (hp.map _)) ?_ ?_
  · have := List.pairwise_mergeSort (le := fun x y : Int => decide (x ≤ y)) (fun a b c h1 h2 => by simp at h1 h2 ⊢; omega) (fun a b => by simp; omega) (numsV l)
    exact this.imp fun {a b} h => by simpa using h
  · unfold numsV
    rw [List.pairwise_map]
    exact (incL_up n l).imp fun {a b} h => by omega
theorem sortI_any (n : Nat) (l : List Nat) (hn : l.Nodup) (hr : InN n l) (hl : l.length ≤ 1000) (B : Nat) (v : Value) (w : World) (hB : B ≤ w.heap.size) (h : New B w 3 v (ints (numsV l))) (h0 : 0 < l.length) :
    Calls Try.prog 109 #[v] w fun e w' => e = .returned (.tuple #[]) ∧ New B w' 3 v (ints (numsV (incL n l))) ∧ Below B w w' := by
  have hlen : (ints (numsV l)).length = l.length := by rw [ints_len, numsV_len]
  obtain ⟨⟨h1, h2⟩, hbase⟩ := h
  rcases h2 with ⟨rfl, h00⟩ | ⟨g, cap, cur, rfl, _, hb, hle, hcap, hsz, ht⟩
  · omega
  · rw [hlen] at hle ⊢
    have hg : g < w.heap.size := (Array.getElem?_eq_some_iff.1 hb).1
    have hBg := hbase g rfl
    have hlm : (numsV l).length = l.length := numsV_len l
    have hH := holds_of_blockI (g := g) (ss := numsV l) hb (by rw [hlm]; rw [hlen, Nat.mul_one] at ht; exact ht)
    have hc := AnyM.slices_Sort_int (P := Try.prog) laysSortI g 0 cap (numsV l) w hH hg (by rw [hlm]; omega)
    rw [hlm] at hc
    refine hc.mono ?_
    rintro e w' ⟨rfl, q, os, rfl⟩
    rw [sort_incL hn hr]
    have hsl : (numsV (incL n l)).length = (numsV l).length := by rw [← sort_incL hn hr, List.length_mergeSort]
    have ho := ownsRow_sortedI (w := w) (base := 0) (g := g) (cap := cap) (n := q) (os := os) hsl (Nat.zero_le _) hb (by rw [hlm]; exact hle) hcap hsz
    rw [hlm] at ho
    have hlen2 : (ints (numsV (incL n l))).length = l.length := by rw [ints_len, hsl, hlm]
    refine ⟨rfl, ⟨by unfold Own; rw [hlen2]; exact ho, hbase⟩, ?_⟩
    exact (Below.refl _ _).grown (grownBy_sortedI _) hB (fun k hk => by cases hk; exact hBg)
theorem hasI_any (l : List Nat) (y : Nat) (v : Value) (w : World) (h : Own w 3 v (ints (numsV l))) (h0 : 0 < l.length) (hl : l.length ≤ 1000) :
    Calls Try.prog 108 #[v, .int .i64 y] w fun e w' => e = .returned (.bool (decide (y ∈ l))) ∧ w' = w := by
  have hlen : (ints (numsV l)).length = l.length := by rw [ints_len, numsV_len]
  obtain ⟨a, cap, rfl, ha⟩ := h.view
  rw [hlen] at h ha ⊢
  obtain ⟨g, rfl⟩ := ha h0
  have hc := AnyE.slices_Contains (P := Try.prog) laysHasI (Value.int .i64) (fun x y => x == y) (EqlAt.int _ _ _) g 0 l.length cap (numsV l) (y : Int) w (by rw [numsV_len]; omega) (by omega) (fun j hj => by
    rw [Nat.zero_add, getElem!_pos (numsV l) j hj]
    exact h.cell j _ (ints_at (numsV l) j hj))
  refine hc.mono ?_
  rintro e w' ⟨rfl, rfl⟩
  refine ⟨?_, rfl⟩
  congr 2
  rw [List.take_of_length_le (by rw [numsV_len]; omega), Bool.eq_iff_iff, List.any_eq_true, decide_eq_true_eq]
  unfold numsV
  constructor
  · rintro ⟨x, hx, e⟩
    obtain ⟨z, hz, rfl⟩ := List.mem_map.1 hx
    have e : (y : Int) = z := by simpa using e
    have : y = z := by omega
    exact this ▸ hz
  · intro hy
    exact ⟨(y : Int), List.mem_map.2 ⟨y, hy, rfl⟩, by simp⟩
theorem act_sub {n : Nat} {f : Nat → Nat} (hf : IsRow n f) {y : Nat} (hy : y < n) : IntKind.u8.wrap ((f y : Int) - 48) = ((act f (y + 1) : Nat) : Int) := by
  have h1 := hf.lo y hy
  have h2 := hf.hi y hy
  have h3 := hf.eight
  have e : ((act f (y + 1) : Nat) : Int) = (f y : Int) - 48 := by unfold act; rw [Nat.add_sub_cancel]; omega
  rw [e]
  exact IntWalk.u8_in _ ⟨by omega, by omega⟩
end Go.Proofs.Ytjmdfmajfaiklaa
