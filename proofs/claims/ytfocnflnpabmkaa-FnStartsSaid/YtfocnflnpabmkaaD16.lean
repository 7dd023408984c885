/- slices.Concat of two lists of texts. -/
import Derived.Test.YtfocnflnpabmkaaD15
namespace Go.Proofs.Ytfocnflnpabmkaa
open Go.RowKit
set_option linter.unusedSimpArgs false
set_option linter.unusedVariables false

theorem cell_lt {w : World} {a : Addr} {v : Value} (h : w.cell? a = some v) : a.block < w.heap.size := by
  rcases Nat.lt_or_ge a.block w.heap.size with h1 | h1
  · exact h1
  · simp [World.cell?, Array.getElem?_eq_none h1] at h
def catL (xs : Nat → List (List Nat)) (i : Nat) : List (List Nat) := ((List.range i).map xs).flatten
theorem catL_succ (xs : Nat → List (List Nat)) (i : Nat) : catL xs (i + 1) = catL xs i ++ xs i := by
  unfold catL
  rw [List.range_succ]
  simp
theorem catL_le (xs : Nat → List (List Nat)) {i j : Nat} (h : i ≤ j) : (catL xs i).length ≤ (catL xs j).length := by
  induction j with
  | zero => obtain rfl : i = 0 := by omega
            exact Nat.le_refl _
  | succ j ih =>
    rcases Nat.lt_or_ge i (j + 1) with h1 | h1
    · have := ih (by omega)
      rw [catL_succ, List.length_append]
      omega
    · obtain rfl : i = j + 1 := by omega
      exact Nat.le_refl _
theorem news_of {W : World} {ad : Addr} {c : Nat} {X : List (List Nat)} (h : Txts W (.slice (some ad) X.length c) X) : ∀ j u, (strs X)[j]? = some u → W.cell? (ad.add j) = some u := by
  intro j u hj
  have hjl : j < X.length := by
    have := (List.getElem?_eq_some_iff.1 hj).1
    simpa [strs] using this
  obtain ⟨a', cap', hv, hcap, hc⟩ := h
  injection hv with e1 e2 e3
  obtain ⟨g, off, e, hg, hcc⟩ := hc (by omega)
  rw [e] at e1
  injection e1 with e1
  subst e1
  rw [add_at, hcc j hjl]
  simp [strs, hjl] at hj
  rw [← hj]
  simp [List.getD_eq_getElem?_getD, hjl]

set_option maxRecDepth 100000 in
set_option maxHeartbeats 1000000 in
theorem concat_any (gb : Nat) (ad : Nat → Addr) (cp : Nat → Nat) (xs : Nat → List (List Nat)) (W : World) (hc : ∀ i, i < 2 → W.cell? ⟨gb, i, none⟩ = some (.slice (some (ad i)) (xs i).length (cp i)))
    (ht : ∀ i, i < 2 → Txts W (.slice (some (ad i)) (xs i).length (cp i)) (xs i)) (h0 : 0 < (catL xs 2).length) (hl : (catL xs 2).length ≤ 1000) :
    Calls Try.prog 63 #[.slice (some ⟨gb, 0, none⟩) 2 2] W (TextsOut (catL xs 2) W) := by
  have hgb := cell_lt (hc 0 (by omega))
  have HC := Lib.hid hc
  have HT := Lib.hid ht
  obtain ⟨i0, hi0, hz0, hz1, hz2⟩ := info_parts infoText
  have I0 := Lib.hid (⟨hi0, hz0, hz1, hz2⟩ : _ ∧ _ ∧ _ ∧ _)
  have HLE := Lib.hid (fun i (h : i ≤ 2) => catL_le xs h)
  have HSU := Lib.hid (catL_succ xs)
  have HZ : Hid (catL xs 0 = []) := Lib.hid rfl
  clear hi0 hz0 hz1 hz2 hc ht
  obtain ⟨res, hres⟩ : ∃ res, catL xs 2 = res := ⟨_, rfl⟩
  have HRES := Lib.hid hres
  rw [hres] at h0 hl HLE ⊢
  have hli : (res.length : Int) ≤ 1000 := by omega
  obtain ⟨rl, hrl⟩ : ∃ rl, res.length = rl := ⟨_, rfl⟩
  rw [hrl] at h0 hl hli HLE
  have HRL := Lib.hid hrl
  clear hres hrl
  go_enter Try.func63, Try.ntmps63
  go_wp2
  go_loopg [3, 5, 11] 2 (fun q sz _ ix wr => ∃ i : Nat, q + i = 2 ∧ ix = .int .i64 i ∧ sz = .int .i64 (catL xs i).length ∧ W = wr)
  case atStart => exact ⟨0, by omega, rfl, by rw [HZ.out]; rfl, rfl⟩
  case round =>
    obtain ⟨i, hqi, rfl, rfl, rfl⟩ := hrel
    by_cases hlt : i < 2
    · have c1 := HC.out i hlt
      have hle := HLE.out (i + 1) (by omega)
      rw [HSU.out, List.length_append] at hle
      have hsum : ((catL xs (i + 1)).length : Int) = (catL xs i).length + (xs i).length := by rw [HSU.out, List.length_append]; simp
      have HSUM := Lib.hid hsum
      generalize (catL xs i).length = l1 at *
      generalize (xs i).length = l2 at *
      have hii : (i : Int) < 2 := by omega
      have hp : ¬ ((l1 : Int) + l2 < 0) := by omega
      have hl1 : (l1 : Int) ≤ 1000 := by omega
      have hl2 : (l2 : Int) ≤ 1000 := by omega
      clear hsum
      go_wp2
      go_roundg (2 - (i + 1))
      case measure => omega
      case rel => exact ⟨i + 1, by omega, by go_num, by rw [HSUM.out], rfl⟩
    · obtain rfl : i = 2 := by omega
      rw [HRES.out, HRL.out]
      go_wp2_with fail
      refine (grow_any rl h0 hl _).mono ?_
      rintro e w1 ⟨gn, cn, rfl, hn1, hb1⟩
      have HN1 := Lib.hid hn1
      have HB1 := Lib.hid hb1
      clear hn1 hb1
      go_wp2
      go_loopg [6, 8, 27] 2 (fun q nv _ ix wr => ∃ i : Nat, q + i = 2 ∧ ix = .int .i64 i ∧ New W.heap.size wr 9 nv (strs (catL xs i)) ∧ Below W.heap.size W wr)
      case atStart => exact ⟨0, by omega, rfl, by rw [HZ.out]; exact HN1.out, HB1.out⟩
      case round =>
        clear HN1 HB1
        obtain ⟨i, hqi, rfl, hn, hb⟩ := hrel
        have HN := Lib.hid hn
        have HB := Lib.hid hb
        obtain ⟨an, kn, rfl, -⟩ := hn.own.view
        clear hn hb
        by_cases hlt : i < 2
        · have c1 := (HB.out.cell (p := ⟨gb, i, none⟩) hgb).trans (HC.out i hlt)
          have HTI := Lib.hid ((HT.out i hlt).kept HB.out)
          have hle := HLE.out (i + 1) (by omega)
          rw [HSU.out, List.length_append] at hle
          have HS2 := Lib.hid (HSU.out i)
          generalize hci : catL xs i = C at *
          generalize hxi : xs i = X at *
          generalize cp i = ci at *
          generalize ad i = ai at *
          have hii : (i : Int) < 2 := by omega
          have hone : ∀ u ∈ strs X, u.oneCell' = true := by
            intro u hu
            simp only [strs, List.mem_map] at hu
            obtain ⟨x, _, rfl⟩ := hu
            rfl
          have HONE := Lib.hid hone
          clear hone hci hxi
          go_wp2_with (at_builtin; refine wpList_appN rfl (.tmp 31) (.tmp 32) 24 rfl 9 i0 (.string ⟨#[]⟩) 16 Try.underlying24 I0.out.1 I0.out.2.1 I0.out.2.2.1 I0.out.2.2.2 rfl W.heap.size W _ (strs C) rfl HN.out ai X.length ci (strs X) rfl (strs_len X) (news_of HTI.out) HONE.out HB.out.size HB.out (by rw [strs_len]; omega) (by omega) ?_)
          intro v6 w6 hn6 hk6 hb6 _ _
          rw [show strs C ++ strs X = strs (C ++ X) by simp [strs], ← HS2.out] at hn6
          have HN6 := Lib.hid hn6
          have HB6 := Lib.hid hb6
          clear hn6 hk6 hb6 HN HB c1
          go_wp2
          go_roundg (2 - (i + 1))
          case measure => omega
          case rel => exact ⟨i + 1, by omega, by go_num, HN6.out, HB6.out⟩
        · obtain rfl : i = 2 := by omega
          rw [HRES.out] at HN
          go_wp2
          go_ret
          exact ⟨_, rfl, by rw [← HRES.out] at *; exact HN.out, HB.out⟩
end Go.Proofs.Ytfocnflnpabmkaa
