/- HalvesOf in the program and in the model; the law on it. -/
import Derived.Test.YtdflpkkcjbdpfaaDoorH4
import Derived.Test.YtdflpkkcjbdpfaaDoorJ2
import Derived.Test.YtdflpkkcjbdpfaaDoorT4
namespace Go.Proofs.YtdflpkkcjbdpfaaDoor
open Go.RowKit
set_option linter.unusedSimpArgs false

def halvesR (n : Int) (L : List (List Nat)) : Option (List (List Nat) × List (List Nat)) := if goodAll n L = true then halves L else none

set_option maxRecDepth 100000 in
set_option maxHeartbeats 1000000 in
theorem iHalvesOf_any (n : Int) (v : Value) (L : List (List Nat)) (w : World) (h : Txts w v L) (hl : L.length ≤ 2000000) :
    Calls Tryd.prog 7 #[.int .i64 n, v] w (TwoRes (halvesR n L) w) := by
  cases hg : goodAll n L
  · have hG := iGoodChanges_any n v L w h hl
    rw [hg] at hG
    have hr : halvesR n L = none := by unfold halvesR; rw [hg]; rfl
    rw [hr]
    clear hg hr
    go_enter Tryd.func7, Tryd.ntmps7
    go_wp2_with fail
    refine hG.mono ?_
    rintro e w1 ⟨rfl, hb1⟩
    go_wp2
    go_ret3
    exact ⟨_, _, rfl, New.nil _ _ _, New.nil _ _ _, fun g hg => by simp [Value.ownBlock] at hg, hb1⟩
  · have hr : halvesR n L = halves L := by unfold halvesR; rw [hg]; rfl
    rw [hr]
    exact iHalves_in n v L w h hg (goodAll_len hg)

set_option maxRecDepth 100000 in
set_option maxHeartbeats 1000000 in
theorem sHalvesOf_any (n : Int) (v : Value) (L : List (List Nat)) (w : World) (h : Txts w v L) (hl : L.length ≤ 2000000) (hs : ∀ l ∈ L, l.length ≤ maxLen) :
    Calls Tryd.prog 8 #[.int .i64 n, v] w (TwoRes (halvesR n L) w) := by
  have hG := l3List_any n v L w h hl hs
  cases hg : goodAll n L
  · rw [hg] at hG
    have hr : halvesR n L = none := by unfold halvesR; rw [hg]; rfl
    rw [hr]
    clear hg hr
    go_enter Tryd.func8, Tryd.ntmps8
    go_wp2_with fail
    refine hG.mono ?_
    rintro e w1 ⟨rfl, rfl⟩
    go_wp2
    go_ret3
    exact ⟨_, _, rfl, New.nil _ _ _, New.nil _ _ _, fun g hg => by simp [Value.ownBlock] at hg, Below.refl _ _⟩
  · rw [hg] at hG
    have hr : halvesR n L = halves L := by unfold halvesR; rw [hg]; rfl
    have hH := l3Halves_any v L w h (by have := goodAll_len hg; omega)
    rw [hr]
    generalize halves L = r at *
    clear hg hr
    go_enter Tryd.func8, Tryd.ntmps8
    go_wp2_with fail
    refine hG.mono ?_
    rintro e w1 ⟨rfl, rfl⟩
    go_wp2_with fail
    refine hH.mono ?_
    rintro e w2 ⟨v1, v2, rfl, h1, h2, h3, h4⟩
    go_wp2
    go_ret3
    exact ⟨v1, v2, rfl, h1, h2, h3, h4⟩
end Go.Proofs.YtdflpkkcjbdpfaaDoor
