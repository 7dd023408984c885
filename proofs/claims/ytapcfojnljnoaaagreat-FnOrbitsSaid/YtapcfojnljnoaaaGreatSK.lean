/- bytes.Compare on two rows; slices.SortFunc on rows: sortDigits. -/
import Derived.Shelf.SlSortCmp.NoneTotal
import Derived.Lib.BytesEntry
import Derived.Lib.Bytealg
import Derived.Laws.Externs
import Derived.Test.YtapcfojnljnoaaaGreatSG
namespace Go.Proofs.YtapcfojnljnoaaaGreat
open Go.RowKit
set_option linter.unusedSimpArgs false
set_option linter.unusedVariables false

theorem numL_app : ∀ (l z : List Nat), numL (l ++ z) = numL l * 256 ^ z.length + numL z
  | [], z => by simp [numL]
  | b :: t, z => by
    show b * 256 ^ (t ++ z).length + numL (t ++ z) = (b * 256 ^ t.length + numL t) * 256 ^ z.length + numL z
    rw [numL_app t z, List.length_append, Nat.pow_add, Nat.add_mul, Nat.mul_assoc, Nat.add_assoc]
def byt8 (f : Nat → Nat) : List UInt8 := (to8 f).map UInt8.ofNat
def key8 (f : Nat → Nat) : Nat := numL (to8 f)
theorem to8_split {n : Nat} {f : Nat → Nat} (h : IsRow n f) : to8 f = rowL n f ++ List.replicate (8 - n) 0 := by
  have h8 := h.eight
  apply List.ext_getElem
  · simp [to8, rowL]; omega
  · intro i h1 h2
    have hi : i < 8 := by simpa [to8] using h1
    by_cases hn : i < n
    · simp [to8, rowL, List.getElem_append, hn]
    · simp [to8, rowL, List.getElem_append, hn, h.zero i (by omega)]
theorem key8_lt {n : Nat} {f g : Nat → Nat} (hf : IsRow n f) (hg : IsRow n g) : key8 f < key8 g ↔ rowKey n f < rowKey n g := by
  unfold key8 rowKey
  rw [to8_split hf, to8_split hg, numL_app, numL_app]
  have hp : 0 < 256 ^ (List.replicate (8 - n) 0).length := Nat.pow_pos (by omega)
  generalize 256 ^ (List.replicate (8 - n) 0).length = p at *
  generalize numL (List.replicate (8 - n) 0) = z
  constructor
  · intro h
    exact Nat.lt_of_mul_lt_mul_right (a := p) (by omega)
  · intro h
    have := Nat.mul_lt_mul_of_pos_right h hp
    omega
theorem cmp_num : ∀ (l r : List Nat), l.length = r.length → (∀ b ∈ l, b < 256) → (∀ b ∈ r, b < 256) → Lib.compareBytes (l.map UInt8.ofNat) (r.map UInt8.ofNat) = if numL l < numL r then -1 else if numL r < numL l then 1 else 0
  | [], [], _, _, _ => by simp [Lib.compareBytes, numL]
  | [], _ :: _, h, _, _ => by simp at h
  | _ :: _, [], h, _, _ => by simp at h
  | a :: l, b :: r, h, hl, hr => by
    have hlen : l.length = r.length := by simpa using h
    have ih := cmp_num l r hlen (fun x hx => hl x (by simp [hx])) (fun x hx => hr x (by simp [hx]))
    have h1 := numL_lt l (fun x hx => hl x (by simp [hx]))
    have h2 := numL_lt r (fun x hx => hr x (by simp [hx]))
    have ha := hl a (by simp)
    have hb := hr b (by simp)
    have e1 : (UInt8.ofNat a < UInt8.ofNat b) ↔ (a < b) := by
      rw [UInt8.lt_iff_toNat_lt]; simp [UInt8.toNat_ofNat']; omega
    have e2 : (UInt8.ofNat b < UInt8.ofNat a) ↔ (b < a) := by
      rw [UInt8.lt_iff_toNat_lt]; simp [UInt8.toNat_ofNat']; omega
    simp only [List.map_cons, Lib.compareBytes, e1, e2, ih, numL, hlen]
    rw [hlen] at h1
    generalize 256 ^ r.length = p at *
    rcases Nat.lt_trichotomy a b with hab | hab | hab
    · have h3 : (a + 1) * p ≤ b * p := Nat.mul_le_mul_right _ hab
      rw [Nat.add_mul, Nat.one_mul] at h3
      have h4 : a * p + numL l < b * p + numL r := by omega
      rw [if_pos hab, if_pos h4]
    · subst hab
      rw [if_neg (Nat.lt_irrefl a), if_neg (Nat.lt_irrefl a)]
      simp
    · have h3 : (b + 1) * p ≤ a * p := Nat.mul_le_mul_right _ hab
      rw [Nat.add_mul, Nat.one_mul] at h3
      have h4 : b * p + numL r < a * p + numL l := by omega
      rw [if_neg (by omega), if_pos hab, if_neg (by omega), if_pos h4]
theorem to8_small {f : Nat → Nat} (hf : ∀ i, f i < 256) : ∀ b ∈ to8 f, b < 256 := fun b hb => by
  obtain ⟨i, _, rfl⟩ := List.mem_map.1 hb
  exact hf i
/-- what bytes.Compare says of two rows -/
def cmp8 (f g : Nat → Nat) : Int := if key8 f < key8 g then -1 else if key8 g < key8 f then 1 else 0
theorem cmp8_bytes {f g : Nat → Nat} (hf : ∀ i, f i < 256) (hg : ∀ i, g i < 256) : Lib.compareBytes (byt8 f) (byt8 g) = cmp8 f g := cmp_num _ _ (by simp [to8]) (to8_small hf) (to8_small hg)

set_option maxRecDepth 100000 in
theorem load8 (f : Nat → Nat) (b : Nat) (W : World) (hc : ∀ i, i < 8 → W.cell? ⟨b, i, none⟩ = some (.int .u8 (f i))) (c : Nat) :
    (Extern.Bytes.bytesOf (.slice (some ⟨b, 0, none⟩) 8 c)).run Tryz.prog W = .ok ⟨(byt8 f).toArray⟩ W := by
  have := Lib.run_loadBytesX (P := Tryz.prog) W ((to8 f).map fun (x : Nat) => (x : Int)) ⟨b, 0, none⟩ .empty (fun j x hj => by
    have hj8 : j < 8 := by
      have := (List.getElem?_eq_some_iff.1 hj).1
      simpa [to8] using this
    rw [add_at, Nat.zero_add, hc j hj8]
    simp [to8, hj8] at hj
    rw [hj])
  have hl : ((to8 f).map fun (x : Nat) => (x : Int)).length = 8 := by simp [to8]
  rw [hl] at this
  show (Extern.Bytes.loadBytes ⟨b, 0, none⟩ 8 .empty).run Tryz.prog W = _
  rw [this]
  have he : (ByteArray.empty.data ++ (Lib.bytesOf ((to8 f).map fun (x : Nat) => (x : Int))).toArray) = (byt8 f).toArray := by
    simp [Lib.bytesOf, byt8]
  rw [he]

set_option maxRecDepth 100000 in
set_option maxHeartbeats 1000000 in
theorem bytesCompare_any (f g : Nat → Nat) (hf : ∀ i, f i < 256) (hg : ∀ i, g i < 256) (b1 b2 c1 c2 : Nat) (W : World) (h1 : ∀ i, i < 8 → W.cell? ⟨b1, i, none⟩ = some (.int .u8 (f i))) (h2 : ∀ i, i < 8 → W.cell? ⟨b2, i, none⟩ = some (.int .u8 (g i))) :
    Calls Tryz.prog 69 #[.slice (some ⟨b1, 0, none⟩) 8 c1, .slice (some ⟨b2, 0, none⟩) 8 c2] W fun e w' => e = .returned (.int .i64 (cmp8 f g)) ∧ w' = W := by
  have hrun : (Extern.BytealgCompare.compare #[.slice (some ⟨b1, 0, none⟩) 8 c1, .slice (some ⟨b2, 0, none⟩) 8 c2]).run Tryz.prog W = .ok (.int .i64 (cmp8 f g)) W := by
    change Sem.run Tryz.prog (do pure (goInt (Extern.BytealgCompare.cmp (← Extern.Bytes.bytesOf (.slice (some ⟨b1, 0, none⟩) 8 c1)) (← Extern.Bytes.bytesOf (.slice (some ⟨b2, 0, none⟩) 8 c2))))) W = _
    rw [Sem.run_bind, load8 f b1 W h1]
    simp only [Result.andThen]
    rw [Sem.run_bind, load8 g b2 W h2]
    simp only [Result.andThen]
    rw [Sem.run_pure, Lib.cmp_eq]
    simp only [goInt]
    rw [cmp8_bytes hf hg]
  clear h1 h2
  go_enter Tryz.func69, Tryz.ntmps69
  go_wp2
  rw [run_callFunc_extern Tryz.func92 (by kernel_rfl) (by kernel_rfl) (by kernel_rfl) (e := Extern.BytealgCompare.compare) (by kernel_rfl), hrun]
  simp only [Result.andThen]
  rw [Oper.upon_value]
  go_wp2
  go_ret
  exact ⟨rfl, rfl⟩
def laysSF_ren : Go.Shelf.Ren := ⟨fun | 6 => 67 | 15 => 56 | 14 => 91 | 28 => 79 | 29 => 80 | 20 => 103 | 21 => 104 | 22 => 105 | 23 => 106 | 24 => 107 | 25 => 108 | 26 => 109 | 27 => 110 | 46 => 113 | 47 => 94 | 48 => 95 | 49 => 114 | 50 => 115 | 57 => 116 | n => n, fun | 22 => 46 | 24 => 70 | 25 => 92 | 3 => 3 | 39 => 83 | 0 => 0 | 53 => 103 | 55 => 41 | 4 => 4 | 46 => 95 | 45 => 94 | 50 => 100 | 5 => 5 | 9 => 9 | 66 => 113 | 70 => 117 | 76 => 126 | 77 => 127 | n => n, fun | n => n⟩
theorem laysSF : Go.Proofs.SlLaysF0.n6 Tryz.prog laysSF_ren := {
  mixed := by kernel_rfl
  f6 := ⟨Tryz.f67.name, by decide, Tryz.func67.trans (congrArg some (by kernel_rfl))⟩
  f14 := ⟨Tryz.f91.name, by decide, Tryz.func91.trans (congrArg some (by kernel_rfl))⟩
  f15 := Tryz.func56.trans (congrArg some (by kernel_rfl))
  f20 := ⟨Tryz.f103.name, by decide, Tryz.func103.trans (congrArg some (by kernel_rfl))⟩
  f21 := ⟨Tryz.f104.name, by decide, Tryz.func104.trans (congrArg some (by kernel_rfl))⟩
  f22 := ⟨Tryz.f105.name, by decide, Tryz.func105.trans (congrArg some (by kernel_rfl))⟩
  f23 := ⟨Tryz.f106.name, by decide, Tryz.func106.trans (congrArg some (by kernel_rfl))⟩
  f24 := ⟨Tryz.f107.name, by decide, Tryz.func107.trans (congrArg some (by kernel_rfl))⟩
  f25 := ⟨Tryz.f108.name, by decide, Tryz.func108.trans (congrArg some (by kernel_rfl))⟩
  f26 := ⟨Tryz.f109.name, by decide, Tryz.func109.trans (congrArg some (by kernel_rfl))⟩
  f27 := ⟨Tryz.f110.name, by decide, Tryz.func110.trans (congrArg some (by kernel_rfl))⟩
  f28 := Tryz.func79.trans (congrArg some (by kernel_rfl))
  f29 := Tryz.func80.trans (congrArg some (by kernel_rfl))
  f46 := ⟨Tryz.f113.name, by decide, Tryz.func113.trans (congrArg some (by kernel_rfl))⟩
  f47 := Tryz.func94.trans (congrArg some (by kernel_rfl))
  f48 := Tryz.func95.trans (congrArg some (by kernel_rfl))
  f49 := ⟨Tryz.f114.name, by decide, Tryz.func114.trans (congrArg some (by kernel_rfl))⟩
  f50 := ⟨Tryz.f115.name, by decide, Tryz.func115.trans (congrArg some (by kernel_rfl))⟩
  f57 := ⟨Tryz.f116.name, by decide, Tryz.func116.trans (congrArg some (by kernel_rfl))⟩
  t0 := Tryz.underlying0
  a0 := Tryz.isAgg0
  z0 := Tryz.sizeOf0
  v0 := Tryz.zeroValue0
  t3 := Tryz.underlying3
  a3 := Tryz.isAgg3
  z3 := Tryz.sizeOf3
  v3 := Tryz.zeroValue3
  t4 := Tryz.underlying4
  a4 := Tryz.isAgg4
  z4 := Tryz.sizeOf4
  v4 := Tryz.zeroValue4
  t5 := Tryz.underlying5
  a5 := Tryz.isAgg5
  z5 := Tryz.sizeOf5
  v5 := Tryz.zeroValue5
  t9 := Tryz.underlying9
  a9 := Tryz.isAgg9
  z9 := Tryz.sizeOf9
  v9 := Tryz.zeroValue9
  t22 := Tryz.underlying46
  a22 := Tryz.isAgg46
  z22 := Tryz.sizeOf46
  v22 := Tryz.zeroValue46
  t25 := Tryz.underlying92
  a25 := Tryz.isAgg92
  z25 := Tryz.sizeOf92
  v25 := Tryz.zeroValue92
  t39 := Tryz.underlying83
  a39 := Tryz.isAgg83
  z39 := Tryz.sizeOf83
  v39 := Tryz.zeroValue83
  t45 := Tryz.underlying94
  a45 := Tryz.isAgg94
  z45 := Tryz.sizeOf94
  v45 := Tryz.zeroValue94
  t46 := Tryz.underlying95
  a46 := Tryz.isAgg95
  z46 := Tryz.sizeOf95
  v46 := Tryz.zeroValue95
  t50 := Tryz.underlying100
  a50 := Tryz.isAgg100
  z50 := Tryz.sizeOf100
  v50 := Tryz.zeroValue100
  t53 := Tryz.underlying103
  a53 := Tryz.isAgg103
  z53 := Tryz.sizeOf103
  v53 := Tryz.zeroValue103
  t55 := Tryz.underlying41
  a55 := Tryz.isAgg41
  z55 := Tryz.sizeOf41
  v55 := Tryz.zeroValue41
  t66 := Tryz.underlying113
  a66 := Tryz.isAgg113
  z66 := Tryz.sizeOf113
  v66 := Tryz.zeroValue113
  t70 := Tryz.underlying117
  a70 := Tryz.isAgg117
  z70 := Tryz.sizeOf117
  v70 := Tryz.zeroValue117
  t76 := Tryz.underlying126
  a76 := Tryz.isAgg126
  z76 := Tryz.sizeOf126
  v76 := Tryz.zeroValue126
  t77 := Tryz.underlying127
  a77 := Tryz.isAgg127
  z77 := Tryz.sizeOf127
  v77 := Tryz.zeroValue127 }
end Go.Proofs.YtapcfojnljnoaaaGreat
