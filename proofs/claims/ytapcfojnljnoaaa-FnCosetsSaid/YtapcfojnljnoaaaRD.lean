/- CosetsIn, the model. -/
import Derived.Test.YtapcfojnljnoaaaRC
import Derived.Deep.RegionHeld3
namespace Go.Proofs.Ytapcfojnljnoaaa
open Go.RowKit
set_option linter.unusedSimpArgs false
set_option linter.unusedVariables false

theorem least_unique {n : Nat} {fs : List (Nat → Nat)} (hr : Rows n fs) (h0 : 0 < (sortF n fs).length) {a : Nat → Nat} (ha : a ∈ fs) (hle : ∀ z ∈ fs, rowKey n a ≤ rowKey n z) : a = (sortF n fs)[0] := by
  have h1 := ord_first (sortF_ord n fs) h0 a ((sortF_perm n fs).mem_iff.2 ha)
  have hm := (sortF_perm n fs).mem_iff.1 (List.getElem_mem h0)
  have h2 := hle _ hm
  exact rowKey_inj (hr a ha) (hr _ hm) (by omega)

set_option maxRecDepth 100000 in
set_option maxHeartbeats 1000000 in
theorem l6Least_any (n : Nat) (v : Value) (fs : List (Nat → Nat)) (hg : Rows n fs) (h0 : 0 < (sortF n fs).length) (hl : fs.length ≤ 1000) (w : World) (h : Txts w v (rowsL n fs)) :
    Calls Try.prog 72 #[v] w fun e w' => e = .returned (.string (strOf n (sortF n fs)[0])) ∧ Below w.heap.size w w' := by
  obtain ⟨m, hm⟩ : ∃ m, fs.length = m := ⟨_, rfl⟩
  obtain ⟨a, cap, rfl, hcap, ha⟩ := h
  rw [rowsL_len, hm] at ha ⊢
  have h00 : 0 < fs.length := by rw [sortF_len] at h0; exact h0
  have hl' : (m : Int) ≤ 1000 := by omega
  have hc2 : ∃ g off, a = some ⟨g, off, none⟩ ∧ g < w.heap.size ∧ ∀ j (hj : j < fs.length), w.cell? ⟨g, off + j, none⟩ = some (.string (strOf n fs[j])) := by
    obtain ⟨g, off, e, hg, hcc⟩ := ha (by omega)
    refine ⟨g, off, e, hg, fun j hj => ?_⟩
    rw [hcc j (by rw [← hm]; exact hj), rowsL, List.getD_eq_getElem?_getD, List.getElem?_map, List.getElem?_eq_getElem hj, Option.map_some, Option.getD_some, txt_rowL]
  obtain ⟨gb, off, rfl, hgb, hcc⟩ := hc2
  have c0 := hcc 0 h00
  rw [Nat.add_zero] at c0
  have hmp : (0 : Int) < (m : Int) := by omega
  have HU : Hid (∀ a, a ∈ fs → (∀ z ∈ fs, rowKey n a ≤ rowKey n z) → strOf n a = strOf n (sortF n fs)[0]) := Lib.hid (fun a h1 h2 => by rw [least_unique hg h0 h1 h2])
  have HF0 : Hid (fs[0] ∈ fs) := Lib.hid (List.getElem_mem h00)
  generalize fs[0] = f0 at *
  generalize strOf n (sortF n fs)[0] = res at *
  have HCC := Lib.hid hcc
  have HM := Lib.hid hm
  have HG := Lib.hid hg
  clear hcc hm hcap ha hg h00 h0 hl
  go_enter Try.func72, Try.ntmps72
  go_wp2
  clear c0
  go_loopg [3, 11] m (fun q l i wr => ∃ (j : Nat) (a : Nat → Nat), q + j = m ∧ i = .int .i64 j ∧ l = .string (strOf n a) ∧ a ∈ fs ∧ (∀ z ∈ fs.take j, rowKey n a ≤ rowKey n z) ∧ Below w.heap.size w wr)
  case atStart => exact ⟨0, f0, by omega, rfl, rfl, HF0.out, fun z hz => by simp at hz, Below.refl _ _⟩
  case round =>
    obtain ⟨j, a, hq, rfl, rfl, hal, hle, hb⟩ := hrel
    have HQ := Lib.hid hq
    have HA := Lib.hid hal
    have HLE := Lib.hid hle
    have HB := Lib.hid hb
    clear hq hal hle hb
    by_cases hlt : j < m
    · have hjx : j < fs.length := by rw [HM.out]; exact hlt
      have c1 := (HB.out.cell (p := ⟨gb, off + j, none⟩) hgb).trans (HCC.out j hjx)
      have hmem := List.getElem_mem hjx
      have HTK : Hid (∀ b : Nat → Nat, rowKey n b ≤ rowKey n fs[j] → (∀ z ∈ fs.take j, rowKey n b ≤ rowKey n z) → ∀ z ∈ fs.take (j + 1), rowKey n b ≤ rowKey n z) := Lib.hid (fun b h1 h2 z hz => by
        rw [List.take_add_one, List.getElem?_eq_getElem hjx] at hz
        rcases List.mem_append.1 hz with hz | hz
        · exact h2 z hz
        · simp at hz; rw [hz]; exact h1)
      generalize fs[j] = x at *
      have hji : (j : Int) < m := by omega
      have hlr := less_rows (HG.out x hmem) (HG.out a HA.out)
      have HMEM := Lib.hid hmem
      have HLK : Hid (ltF n x a = decide (rowKey n x < rowKey n a)) := Lib.hid rfl
      generalize hlf : ltF n x a = lf at *
      clear hlf hmem
      cases lf
      · have hk : ¬ rowKey n x < rowKey n a := of_decide_eq_false HLK.out.symm
        have HY := Lib.hid (HTK.out a (by omega) HLE.out)
        generalize hsx : strOf n x = sx at *
        generalize hsa : strOf n a = sa at *
        have HSA := Lib.hid hsa
        clear hk hsx hsa
        go_wp2
        go_roundg (gk - 1)
        case measure => have := HQ.out; omega
        case rel => exact ⟨j + 1, a, by have := HQ.out; omega, by go_num, by rw [HSA.out], HA.out, HY.out, HB.out⟩
      · have hk : rowKey n x < rowKey n a := of_decide_eq_true HLK.out.symm
        have HY := Lib.hid (HTK.out x (Nat.le_refl _) fun z hz => Nat.le_trans (Nat.le_of_lt hk) (HLE.out z hz))
        generalize hsx : strOf n x = sx at *
        generalize hsa : strOf n a = sa at *
        have HSX := Lib.hid hsx
        clear hk hsx hsa
        go_wp2
        go_roundg (gk - 1)
        case measure => have := HQ.out; omega
        case rel => exact ⟨j + 1, x, by have := HQ.out; omega, by go_num, by rw [HSX.out], HMEM.out, HY.out, HB.out⟩
    · obtain rfl : j = m := by have := HQ.out; omega
      have hfin := HU.out a HA.out (by have := HLE.out; rwa [List.take_of_length_le (by rw [HM.out]; exact Nat.le_refl _)] at this)
      rw [hfin]
      clear hfin hlt
      go_wp2
      go_ret
      exact ⟨rfl, HB.out⟩
end Go.Proofs.Ytapcfojnljnoaaa
