/- bytes.Compare on two rows; slices.SortFunc on rows: sortDigits. -/
import Derived.Shelf.SlSortCmp.NoneTotal
import Derived.Lib.BytesEntry
import Derived.Lib.Bytealg
import Derived.Laws.Externs
import Derived.Test.YtapcfojnljnoaaaSG
namespace Go.Proofs.Ytapcfojnljnoaaa
open Go.RowKit
set_option linter.unusedSimpArgs false
set_option linter.unusedVariables false

theorem numL_app : ∀ (l z : List Nat), numL (l ++ z) = numL l * 256 ^ z.length + numL z
  | [], z => by simp [numL]
  | b :: t, z => by
    show b * 256 ^ (t ++ z).length + numL (t ++ z) = (b * 256 ^ t.length + numL t) * 256 ^ z.length + numL z
    rw [numL_app t z, List.length_append, Nat.pow_add, Nat.add_mul, Nat.mul_assoc, Nat.add_assoc]
def byt8 (f : Nat → Nat) : List UInt8 := (to8 f).map UInt8.ofNat
def key8 (f : Nat → Nat) : Nat := numL (to8 f)
theorem to8_split {n : Nat} {f : Nat → Nat} (h : IsRow n f) : to8 f = rowL n f ++ List.replicate (8 - n) 0 := by
  have h8 := h.eight
  apply List.ext_getElem
  · simp [to8, rowL]; omega
  · intro i h1 h2
    have hi : i < 8 := by simpa [to8] using h1
    by_cases hn : i < n
    · simp [to8, rowL, List.getElem_append, hn]
    · simp [to8, rowL, List.getElem_append, hn, h.zero i (by omega)]
theorem key8_lt {n : Nat} {f g : Nat → Nat} (hf : IsRow n f) (hg : IsRow n g) : key8 f < key8 g ↔ rowKey n f < rowKey n g := by
  unfold key8 rowKey
  rw [to8_split hf, to8_split hg, numL_app, numL_app]
  have hp : 0 < 256 ^ (List.replicate (8 - n) 0).length := Nat.pow_pos (by omega)
  generalize 256 ^ (List.replicate (8 - n) 0).length = p at *
  generalize numL (List.replicate (8 - n) 0) = z
  constructor
  · intro h
    exact Nat.lt_of_mul_lt_mul_right (a := p) (by omega)
  · intro h
    have := Nat.mul_lt_mul_of_pos_right h hp
    omega
theorem cmp_num : ∀ (l r : List Nat), l.length = r.length → (∀ b ∈ l, b < 256) → (∀ b ∈ r, b < 256) → Lib.compareBytes (l.map UInt8.ofNat) (r.map UInt8.ofNat) = if numL l < numL r then -1 else if numL r < numL l then 1 else 0
  | [], [], _, _, _ => by simp [Lib.compareBytes, numL]
  | [], _ :: _, h, _, _ => by simp at h
  | _ :: _, [], h, _, _ => by simp at h
  | a :: l, b :: r, h, hl, hr => by
    have hlen : l.length = r.length := by simpa using h
    have ih := cmp_num l r hlen (fun x hx => hl x (by simp [hx])) (fun x hx => hr x (by simp [hx]))
    have h1 := numL_lt l (fun x hx => hl x (by simp [hx]))
    have h2 := numL_lt r (fun x hx => hr x (by simp [hx]))
    have ha := hl a (by simp)
    have hb := hr b (by simp)
    have e1 : (UInt8.ofNat a < UInt8.ofNat b) ↔ (a < b) := by
      rw [UInt8.lt_iff_toNat_lt]; simp [UInt8.toNat_ofNat']; omega
    have e2 : (UInt8.ofNat b < UInt8.ofNat a) ↔ (b < a) := by
      rw [UInt8.lt_iff_toNat_lt]; simp [UInt8.toNat_ofNat']; omega
    simp only [List.map_cons, Lib.compareBytes, e1, e2, ih, numL, hlen]
    rw [hlen] at h1
    generalize 256 ^ r.length = p at *
    rcases Nat.lt_trichotomy a b with hab | hab | hab
    · have h3 : (a + 1) * p ≤ b * p := Nat.mul_le_mul_right _ hab
      rw [Nat.add_mul, Nat.one_mul] at h3
      have h4 : a * p + numL l < b * p + numL r := by omega
      rw [if_pos hab, if_pos h4]
    · subst hab
      rw [if_neg (Nat.lt_irrefl a), if_neg (Nat.lt_irrefl a)]
      simp
    · have h3 : (b + 1) * p ≤ a * p := Nat.mul_le_mul_right _ hab
      rw [Nat.add_mul, Nat.one_mul] at h3
      have h4 : b * p + numL r < a * p + numL l := by omega
      rw [if_neg (by omega), if_pos hab, if_neg (by omega), if_pos h4]
theorem to8_small {f : Nat → Nat} (hf : ∀ i, f i < 256) : ∀ b ∈ to8 f, b < 256 := fun b hb => by
  obtain ⟨i, _, rfl⟩ := List.mem_map.1 hb
  exact hf i
/-- what bytes.Compare says of two rows -/
def cmp8 (f g : Nat → Nat) : Int := if key8 f < key8 g then -1 else if key8 g < key8 f then 1 else 0
theorem cmp8_bytes {f g : Nat → Nat} (hf : ∀ i, f i < 256) (hg : ∀ i, g i < 256) : Lib.compareBytes (byt8 f) (byt8 g) = cmp8 f g := cmp_num _ _ (by simp [to8]) (to8_small hf) (to8_small hg)

set_option maxRecDepth 100000 in
theorem load8 (f : Nat → Nat) (b : Nat) (W : World) (hc : ∀ i, i < 8 → W.cell? ⟨b, i, none⟩ = some (.int .u8 (f i))) (c : Nat) :
    (Extern.Bytes.bytesOf (.slice (some ⟨b, 0, none⟩) 8 c)).run Try.prog W = .ok ⟨(byt8 f).toArray⟩ W := by
  have := Lib.run_loadBytesX (P := Try.prog) W ((to8 f).map fun (x : Nat) => (x : Int)) ⟨b, 0, none⟩ .empty (fun j x hj => by
    have hj8 : j < 8 := by
      have := (List.getElem?_eq_some_iff.1 hj).1
      simpa [to8] using this
    rw [add_at, Nat.zero_add, hc j hj8]
    simp [to8, hj8] at hj
    rw [hj])
  have hl : ((to8 f).map fun (x : Nat) => (x : Int)).length = 8 := by simp [to8]
  rw [hl] at this
  show (Extern.Bytes.loadBytes ⟨b, 0, none⟩ 8 .empty).run Try.prog W = _
  rw [this]
  have he : (ByteArray.empty.data ++ (Lib.bytesOf ((to8 f).map fun (x : Nat) => (x : Int))).toArray) = (byt8 f).toArray := by
    simp [Lib.bytesOf, byt8]
  rw [he]

set_option maxRecDepth 100000 in
set_option maxHeartbeats 1000000 in
theorem bytesCompare_any (f g : Nat → Nat) (hf : ∀ i, f i < 256) (hg : ∀ i, g i < 256) (b1 b2 c1 c2 : Nat) (W : World) (h1 : ∀ i, i < 8 → W.cell? ⟨b1, i, none⟩ = some (.int .u8 (f i))) (h2 : ∀ i, i < 8 → W.cell? ⟨b2, i, none⟩ = some (.int .u8 (g i))) :
    Calls Try.prog 126 #[.slice (some ⟨b1, 0, none⟩) 8 c1, .slice (some ⟨b2, 0, none⟩) 8 c2] W fun e w' => e = .returned (.int .i64 (cmp8 f g)) ∧ w' = W := by
  have hrun : (Extern.BytealgCompare.compare #[.slice (some ⟨b1, 0, none⟩) 8 c1, .slice (some ⟨b2, 0, none⟩) 8 c2]).run Try.prog W = .ok (.int .i64 (cmp8 f g)) W := by
    change Sem.run Try.prog (do pure (goInt (Extern.BytealgCompare.cmp (← Extern.Bytes.bytesOf (.slice (some ⟨b1, 0, none⟩) 8 c1)) (← Extern.Bytes.bytesOf (.slice (some ⟨b2, 0, none⟩) 8 c2))))) W = _
    rw [Sem.run_bind, load8 f b1 W h1]
    simp only [Result.andThen]
    rw [Sem.run_bind, load8 g b2 W h2]
    simp only [Result.andThen]
    rw [Sem.run_pure, Lib.cmp_eq]
    simp only [goInt]
    rw [cmp8_bytes hf hg]
  clear h1 h2
  go_enter Try.func126, Try.ntmps126
  go_wp2
  rw [run_callFunc_extern Try.func137 (by kernel_rfl) (by kernel_rfl) (by kernel_rfl) (e := Extern.BytealgCompare.compare) (by kernel_rfl), hrun]
  simp only [Result.andThen]
  rw [Oper.upon_value]
  go_wp2
  go_ret
  exact ⟨rfl, rfl⟩
def laysSF_ren : Go.Shelf.Ren := ⟨fun | 6 => 124 | 15 => 99 | 14 => 136 | 28 => 122 | 29 => 123 | 20 => 148 | 21 => 149 | 22 => 150 | 23 => 151 | 24 => 152 | 25 => 153 | 26 => 154 | 27 => 155 | 46 => 160 | 47 => 131 | 48 => 132 | 49 => 161 | 50 => 162 | 57 => 164 | n => n, fun | 22 => 54 | 24 => 62 | 25 => 121 | 3 => 3 | 39 => 99 | 0 => 0 | 53 => 117 | 55 => 86 | 4 => 4 | 46 => 110 | 45 => 109 | 50 => 45 | 5 => 5 | 9 => 9 | 66 => 123 | 70 => 127 | 76 => 136 | 77 => 137 | n => n, fun | n => n⟩
theorem laysSF : Go.Proofs.SlLaysF0.n6 Try.prog laysSF_ren := {
  mixed := by kernel_rfl
  f6 := ⟨Try.f124.name, by decide, Try.func124.trans (congrArg some (by kernel_rfl))⟩
  f14 := ⟨Try.f136.name, by decide, Try.func136.trans (congrArg some (by kernel_rfl))⟩
  f15 := Try.func99.trans (congrArg some (by kernel_rfl))
  f20 := ⟨Try.f148.name, by decide, Try.func148.trans (congrArg some (by kernel_rfl))⟩
  f21 := ⟨Try.f149.name, by decide, Try.func149.trans (congrArg some (by kernel_rfl))⟩
  f22 := ⟨Try.f150.name, by decide, Try.func150.trans (congrArg some (by kernel_rfl))⟩
  f23 := ⟨Try.f151.name, by decide, Try.func151.trans (congrArg some (by kernel_rfl))⟩
  f24 := ⟨Try.f152.name, by decide, Try.func152.trans (congrArg some (by kernel_rfl))⟩
  f25 := ⟨Try.f153.name, by decide, Try.func153.trans (congrArg some (by kernel_rfl))⟩
  f26 := ⟨Try.f154.name, by decide, Try.func154.trans (congrArg some (by kernel_rfl))⟩
  f27 := ⟨Try.f155.name, by decide, Try.func155.trans (congrArg some (by kernel_rfl))⟩
  f28 := Try.func122.trans (congrArg some (by kernel_rfl))
  f29 := Try.func123.trans (congrArg some (by kernel_rfl))
  f46 := ⟨Try.f160.name, by decide, Try.func160.trans (congrArg some (by kernel_rfl))⟩
  f47 := Try.func131.trans (congrArg some (by kernel_rfl))
  f48 := Try.func132.trans (congrArg some (by kernel_rfl))
  f49 := ⟨Try.f161.name, by decide, Try.func161.trans (congrArg some (by kernel_rfl))⟩
  f50 := ⟨Try.f162.name, by decide, Try.func162.trans (congrArg some (by kernel_rfl))⟩
  f57 := ⟨Try.f164.name, by decide, Try.func164.trans (congrArg some (by kernel_rfl))⟩
  t0 := Try.underlying0
  a0 := Try.isAgg0
  z0 := Try.sizeOf0
  v0 := Try.zeroValue0
  t3 := Try.underlying3
  a3 := Try.isAgg3
  z3 := Try.sizeOf3
  v3 := Try.zeroValue3
  t4 := Try.underlying4
  a4 := Try.isAgg4
  z4 := Try.sizeOf4
  v4 := Try.zeroValue4
  t5 := Try.underlying5
  a5 := Try.isAgg5
  z5 := Try.sizeOf5
  v5 := Try.zeroValue5
  t9 := Try.underlying9
  a9 := Try.isAgg9
  z9 := Try.sizeOf9
  v9 := Try.zeroValue9
  t22 := Try.underlying54
  a22 := Try.isAgg54
  z22 := Try.sizeOf54
  v22 := Try.zeroValue54
  t25 := Try.underlying121
  a25 := Try.isAgg121
  z25 := Try.sizeOf121
  v25 := Try.zeroValue121
  t39 := Try.underlying99
  a39 := Try.isAgg99
  z39 := Try.sizeOf99
  v39 := Try.zeroValue99
  t45 := Try.underlying109
  a45 := Try.isAgg109
  z45 := Try.sizeOf109
  v45 := Try.zeroValue109
  t46 := Try.underlying110
  a46 := Try.isAgg110
  z46 := Try.sizeOf110
  v46 := Try.zeroValue110
  t50 := Try.underlying45
  a50 := Try.isAgg45
  z50 := Try.sizeOf45
  v50 := Try.zeroValue45
  t53 := Try.underlying117
  a53 := Try.isAgg117
  z53 := Try.sizeOf117
  v53 := Try.zeroValue117
  t55 := Try.underlying86
  a55 := Try.isAgg86
  z55 := Try.sizeOf86
  v55 := Try.zeroValue86
  t66 := Try.underlying123
  a66 := Try.isAgg123
  z66 := Try.sizeOf123
  v66 := Try.zeroValue123
  t70 := Try.underlying127
  a70 := Try.isAgg127
  z70 := Try.sizeOf127
  v70 := Try.zeroValue127
  t76 := Try.underlying136
  a76 := Try.isAgg136
  z76 := Try.sizeOf136
  v76 := Try.zeroValue136
  t77 := Try.underlying137
  a77 := Try.isAgg137
  z77 := Try.sizeOf137
  v77 := Try.zeroValue137 }
end Go.Proofs.Ytapcfojnljnoaaa
