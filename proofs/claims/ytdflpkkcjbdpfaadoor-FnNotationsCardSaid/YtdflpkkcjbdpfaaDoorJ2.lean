/- Texts: goodChanges and NotationText in the program. -/
import Derived.Test.YtdflpkkcjbdpfaaDoorM4
namespace Go.Proofs.YtdflpkkcjbdpfaaDoor
open Go.RowKit
set_option linter.unusedSimpArgs false
set_option linter.unusedVariables false

set_option maxRecDepth 100000 in
set_option maxHeartbeats 1000000 in
theorem iGoodChanges_any (n : Int) (v : Value) (L : List (List Nat)) (w : World) (h : Txts w v L) (hl : L.length ≤ 2000000) :
    Calls Tryd.prog 28 #[.int .i64 n, v] w fun e w' => e = .returned (.bool (goodAll n L)) ∧ Below w.heap.size w w' := by
  have hC := changeListOf_any n v L w h hl
  unfold ListOut at hC
  generalize goodAll n L = res at *
  have HC := Lib.hid hC
  clear hC h
  go_enter Tryd.func28, Tryd.ntmps28
  go_wp2_with fail
  refine HC.out.mono ?_
  rintro e w1 ⟨v1, rfl, hn, hb⟩
  go_wp2
  go_ret
  exact ⟨rfl, hb⟩

set_option maxRecDepth 100000 in
set_option maxHeartbeats 1000000 in
theorem iNotationText_any (n : Int) (v : Value) (L : List (List Nat)) (w : World) (h : Txts w v L) (hl : L.length ≤ 2000000) :
    Calls Tryd.prog 21 #[.int .i64 n, v] w (TextRes (noteT n L) (goodAll n L) w) := by
  have hG := iGoodChanges_any n v L w h hl
  have HH := Lib.hid h
  cases hg : goodAll n L
  · rw [hg] at hG
    have hr : noteT n L = [] := by unfold noteT; rw [hg]; rfl
    rw [hr]
    clear hg hr
    go_enter Tryd.func21, Tryd.ntmps21
    go_wp2_with fail
    refine hG.mono ?_
    rintro e w1 ⟨rfl, hb1⟩
    go_wp2
    go_ret2
    exact ⟨rfl, hb1⟩
  · rw [hg] at hG
    have hr : noteT n L = textT true L := by unfold noteT; rw [hg]; rfl
    have hJ : Hid (∀ u w, Txts w u L → Calls Tryd.prog 43 #[u] w _) := Lib.hid (fun u w h => joinChanges_any u L w h (by have := goodAll_len hg; omega) (by have := goodAll_text hg; omega))
    rw [hr]
    generalize textT true L = tot at *
    clear hg hr
    go_enter Tryd.func21, Tryd.ntmps21
    go_wp2_with fail
    refine hG.mono ?_
    rintro e w1 ⟨rfl, hb1⟩
    go_wp2_with fail
    refine (hJ.out _ _ (HH.out.kept hb1)).mono ?_
    rintro e w2 ⟨rfl, hb2⟩
    go_wp2
    go_ret2
    exact ⟨rfl, hb1.trans (hb2.mono hb1.size)⟩
end Go.Proofs.YtdflpkkcjbdpfaaDoor
