/- Calls in the model: what is good, the change of a call, heads, rows. -/
import Derived.Test.YtkhglknpcajmiaaQA
import Derived.Deep.RegionHeld3
namespace Go.Proofs.Ytkhglknpcajmiaa
open Go.RowKit
set_option linter.unusedSimpArgs false
set_option linter.unusedVariables false

/-- a method with calls and a call -/
def askK (s : ByteArray) (n : Int) (L : List (List Nat)) (b q r : ByteArray) : Bool := goodK s n L b q && kB r

set_option maxRecDepth 100000 in
set_option maxHeartbeats 1000000 in
theorem l8Call_any (r : ByteArray) (w : World) :
    Calls Try.prog 105 #[.string r] w fun e w' => e = .returned (.bool (kB r)) ∧ w' = w := by
  by_cases h1 : r = ⟨#[112]⟩
  · subst h1
    go_enter Try.func105, Try.ntmps105
    go_wp2
    go_ret
    exact ⟨rfl, rfl⟩
  by_cases h2 : r = ⟨#[98]⟩
  · subst h2
    go_enter Try.func105, Try.ntmps105
    go_wp2
    go_ret
    exact ⟨rfl, rfl⟩
  by_cases h3 : r = ⟨#[115]⟩
  · subst h3
    go_enter Try.func105, Try.ntmps105
    go_wp2
    go_ret
    exact ⟨rfl, rfl⟩
  have hb : kB r = false := by unfold kB; rw [decide_eq_false h1, decide_eq_false h2, decide_eq_false h3]; rfl
  rw [hb]
  have hp := ne_p h1
  have hb := ne_b h2
  have hs := ne_s h3
  clear h1 h2 h3
  go_enter Try.func105, Try.ntmps105
  go_wp2
  go_ret
  exact ⟨rfl, rfl⟩

set_option maxRecDepth 100000 in
set_option maxHeartbeats 1000000 in
theorem l8Good_any (s : ByteArray) (hs : s.size ≤ maxLen) (n : Int) (v : Value) (L : List (List Nat)) (b q : ByteArray) (hb : b.size ≤ maxLen) (hq : q.size ≤ maxLen) (w : World) (h : Txts w v L) (hl : L.length ≤ 2000000) (hsm : Small L) :
    Calls Try.prog 95 #[.agg #[.string s, .int .i64 n, v], .agg #[.string b, .string q]] w fun e w' => e = .returned (.bool (goodK s n L b q)) ∧ Below w.heap.size w w' := by
  obtain ⟨a, cap, rfl, hcap, -⟩ := id h
  have HT := Lib.hid h
  have HR0 := Lib.hid ((RowAt.new w 25 #[.string s, .int .i64 n, .slice a L.length cap]).push (.cells #[.string b, .string q] 27))
  have HK0 : Hid (RowAt ((w.alloc (.cells #[.string s, .int .i64 n, .slice a L.length cap] 25)).alloc (.cells #[.string b, .string q] 27)) (w.heap.size + 1) 27 #[.string b, .string q]) := Lib.hid (by
    have := RowAt.new (w.alloc (.cells #[.string s, .int .i64 n, .slice a L.length cap] 25)) 27 #[.string b, .string q]
    simpa using this)
  have HB0 := Lib.hid (((Below.refl _ w).alloc (Nat.le_refl _) (.cells #[.string s, .int .i64 n, .slice a L.length cap] 25)).alloc (by simp) (.cells #[.string b, .string q] 27))
  have HG := Lib.hid (fun w h => l4Good_any s hs n (.slice a L.length cap) L w h hl hsm)
  have HLB := Lib.hid hb
  have HLQ := Lib.hid hq
  have hgk : goodK s n L b q = (goodM s n L && goodC n b && goodC n q) := rfl
  rw [hgk]
  obtain ⟨gm, hgm⟩ : ∃ gm, goodM s n L = gm := ⟨_, rfl⟩
  obtain ⟨gb, hgb⟩ : ∃ gb, goodC n b = gb := ⟨_, rfl⟩
  obtain ⟨gq, hgq⟩ : ∃ gq, goodC n q = gq := ⟨_, rfl⟩
  rw [hgm] at HG ⊢
  rw [hgb, hgq]
  have EB := Lib.hid hgb
  have EQ := Lib.hid hgq
  clear h hcap hl hsm hb hq hgk hgm hgb hgq
  generalize L.length = m at *
  go_enter Try.func95, Try.ntmps95
  go_wp2_with (first | (refine wpList_load_row rfl 25 _ rfl _ rfl 25 _ _ _ (HR0.out) Try.underlying25 rfl (by kernel_rfl) ?_) | (refine wpList_load_row rfl 27 _ rfl _ rfl 27 _ _ _ (HK0.out) Try.underlying27 rfl (by kernel_rfl) ?_) | fail)
  refine (HG.out _ (HT.out.kept HB0.out)).mono ?_
  rintro e w1 ⟨rfl, hb1⟩
  have HR1 := Lib.hid (HR0.out.kept hb1)
  have HK1 := Lib.hid (HK0.out.kept hb1)
  have HB1 := Lib.hid (HB0.out.trans (hb1.mono HB0.out.size))
  clear hb1 HG HB0 HR0 HK0
  have c1 := HR1.out.cell 1 rfl
  have d0 := HK1.out.cell 0 rfl
  have d1 := HK1.out.cell 1 rfl
  cases gm
  · go_wp2
    go_ret
    exact ⟨rfl, HB1.out⟩
  · cases gb
    · go_wp2_with (first | (go_at_call 118; refine (l2Change_any n _ (by first | exact HLB.out | exact HLQ.out) _).mono ?_; rintro e w2 ⟨rfl, rfl⟩; first | rw [EB.out] | rw [EQ.out]) | fail)
      go_ret
      exact ⟨rfl, HB1.out⟩
    · cases gq
      all_goals
        go_wp2_with (first | (go_at_call 118; refine (l2Change_any n _ (by first | exact HLB.out | exact HLQ.out) _).mono ?_; rintro e w2 ⟨rfl, rfl⟩; first | rw [EB.out] | rw [EQ.out]) | fail)
        go_ret
        exact ⟨rfl, HB1.out⟩

set_option maxRecDepth 100000 in
set_option maxHeartbeats 1000000 in
theorem sGoodCalls_any (s : ByteArray) (hs : s.size ≤ maxLen) (n : Int) (v : Value) (L : List (List Nat)) (b q : ByteArray) (hb : b.size ≤ maxLen) (hq : q.size ≤ maxLen) (w : World) (h : Txts w v L) (hl : L.length ≤ 2000000) (hsm : Small L) :
    Calls Try.prog 30 #[.agg #[.string s, .int .i64 n, v], .agg #[.string b, .string q]] w fun e w' => e = .returned (.bool (goodK s n L b q)) ∧ Below w.heap.size w w' := by
  obtain ⟨a, cap, rfl, hcap, -⟩ := id h
  have HT := Lib.hid h
  have HR0 := Lib.hid ((RowAt.new w 25 #[.string s, .int .i64 n, .slice a L.length cap]).push (.cells #[.string b, .string q] 27))
  have HK0 : Hid (RowAt ((w.alloc (.cells #[.string s, .int .i64 n, .slice a L.length cap] 25)).alloc (.cells #[.string b, .string q] 27)) (w.heap.size + 1) 27 #[.string b, .string q]) := Lib.hid (by
    have := RowAt.new (w.alloc (.cells #[.string s, .int .i64 n, .slice a L.length cap] 25)) 27 #[.string b, .string q]
    simpa using this)
  have HB0 := Lib.hid (((Below.refl _ w).alloc (Nat.le_refl _) (.cells #[.string s, .int .i64 n, .slice a L.length cap] 25)).alloc (by simp) (.cells #[.string b, .string q] 27))
  have HG := Lib.hid (fun w h => l8Good_any s hs n (.slice a L.length cap) L b q hb hq w h hl hsm)
  generalize goodK s n L b q = gk at *
  clear h hcap hl hsm hb hq
  generalize L.length = m at *
  go_enter Try.func30, Try.ntmps30
  go_wp2_with (first | (refine wpList_load_row rfl 25 _ rfl _ rfl 25 _ _ _ (HR0.out) Try.underlying25 rfl (by kernel_rfl) ?_) | (refine wpList_load_row rfl 27 _ rfl _ rfl 27 _ _ _ (HK0.out) Try.underlying27 rfl (by kernel_rfl) ?_) | fail)
  refine (HG.out _ (HT.out.kept HB0.out)).mono ?_
  rintro e w1 ⟨rfl, hb1⟩
  have HR1 := Lib.hid (HR0.out.kept hb1)
  have HK1 := Lib.hid (HK0.out.kept hb1)
  have HB1 := Lib.hid (HB0.out.trans (hb1.mono HB0.out.size))
  go_wp2
  go_ret
  exact ⟨rfl, HB1.out⟩

set_option maxRecDepth 100000 in
set_option maxHeartbeats 1000000 in
theorem l8Asked_any (s : ByteArray) (hs : s.size ≤ maxLen) (n : Int) (v : Value) (L : List (List Nat)) (b q r : ByteArray) (hb : b.size ≤ maxLen) (hq : q.size ≤ maxLen) (w : World) (h : Txts w v L) (hl : L.length ≤ 2000000) (hsm : Small L) :
    Calls Try.prog 82 #[.agg #[.string s, .int .i64 n, v], .agg #[.string b, .string q], .string r] w fun e w' => e = .returned (.bool (askK s n L b q r)) ∧ Below w.heap.size w w' := by
  obtain ⟨a, cap, rfl, hcap, -⟩ := id h
  have HT := Lib.hid h
  have HR0 := Lib.hid ((RowAt.new w 25 #[.string s, .int .i64 n, .slice a L.length cap]).push (.cells #[.string b, .string q] 27))
  have HK0 : Hid (RowAt ((w.alloc (.cells #[.string s, .int .i64 n, .slice a L.length cap] 25)).alloc (.cells #[.string b, .string q] 27)) (w.heap.size + 1) 27 #[.string b, .string q]) := Lib.hid (by
    have := RowAt.new (w.alloc (.cells #[.string s, .int .i64 n, .slice a L.length cap] 25)) 27 #[.string b, .string q]
    simpa using this)
  have HB0 := Lib.hid (((Below.refl _ w).alloc (Nat.le_refl _) (.cells #[.string s, .int .i64 n, .slice a L.length cap] 25)).alloc (by simp) (.cells #[.string b, .string q] 27))
  have HG := Lib.hid (fun w h => l8Good_any s hs n (.slice a L.length cap) L b q hb hq w h hl hsm)
  have HC := Lib.hid (l8Call_any r)
  have hgk : askK s n L b q r = (goodK s n L b q && kB r) := rfl
  rw [hgk]
  generalize goodK s n L b q = gk at *
  generalize kB r = kb at *
  clear h hcap hl hsm hb hq hgk
  generalize L.length = m at *
  go_enter Try.func82, Try.ntmps82
  go_wp2_with (first | (refine wpList_load_row rfl 25 _ rfl _ rfl 25 _ _ _ (HR0.out) Try.underlying25 rfl (by kernel_rfl) ?_) | (refine wpList_load_row rfl 27 _ rfl _ rfl 27 _ _ _ (HK0.out) Try.underlying27 rfl (by kernel_rfl) ?_) | fail)
  refine (HG.out _ (HT.out.kept HB0.out)).mono ?_
  rintro e w1 ⟨rfl, hb1⟩
  have HR1 := Lib.hid (HR0.out.kept hb1)
  have HK1 := Lib.hid (HK0.out.kept hb1)
  have HB1 := Lib.hid (HB0.out.trans (hb1.mono HB0.out.size))
  clear hb1 HG HB0 HR0 HK0
  cases gk
  · go_wp2
    go_ret
    exact ⟨rfl, HB1.out⟩
  · go_wp2_with (first | (go_at_call 105; refine (HC.out _).mono ?_; rintro e w2 ⟨rfl, rfl⟩) | fail)
    go_ret
    exact ⟨by simp, HB1.out⟩

set_option maxRecDepth 100000 in
set_option maxHeartbeats 1000000 in
theorem l8Change_any (s : ByteArray) (n : Int) (v : Value) (L : List (List Nat)) (b q r : ByteArray) (hr : kB r = true) (h1 : 1 ≤ L.length) (hl : L.length ≤ 40) (w : World) (h : Txts w v L) :
    Calls Try.prog 84 #[.agg #[.string s, .int .i64 n, v], .agg #[.string b, .string q], .string r] w fun e w' => e = .returned (.string (endC L b q (kN r))) ∧ Below w.heap.size w w' := by
  obtain ⟨a, cap, rfl, hcap, -⟩ := id h
  have HT := Lib.hid h
  have HR0 := Lib.hid ((RowAt.new w 25 #[.string s, .int .i64 n, .slice a L.length cap]).push (.cells #[.string b, .string q] 27))
  have HK0 : Hid (RowAt ((w.alloc (.cells #[.string s, .int .i64 n, .slice a L.length cap] 25)).alloc (.cells #[.string b, .string q] 27)) (w.heap.size + 1) 27 #[.string b, .string q]) := Lib.hid (by
    have := RowAt.new (w.alloc (.cells #[.string s, .int .i64 n, .slice a L.length cap] 25)) 27 #[.string b, .string q]
    simpa using this)
  have HB0 := Lib.hid (((Below.refl _ w).alloc (Nat.le_refl _) (.cells #[.string s, .int .i64 n, .slice a L.length cap] 25)).alloc (by simp) (.cells #[.string b, .string q] 27))
  obtain ⟨a', cap', hva, -, ha⟩ := id h
  obtain ⟨g, off, rfl, hg, hc⟩ := ha (by omega)
  injection hva with e1 e2 e3
  subst e1 e3
  obtain ⟨k, hk⟩ : ∃ k, L.length = k + 1 := ⟨L.length - 1, by omega⟩
  have c9 := hc (L.length - 1) (by omega)
  have hE : endC L b q 0 = txt (L.getD (L.length - 1) []) := rfl
  generalize txt (L.getD (L.length - 1) []) = t at *
  rw [hk, Nat.add_sub_cancel] at c9
  rw [hk] at HR0 HK0 HB0 ⊢
  have d0 := HK0.out.cell 0 rfl
  have d1 := HK0.out.cell 1 rfl
  have c2 := HR0.out.cell 2 rfl
  have c9 := (HB0.out.cell (p := ⟨g, off + k, none⟩) hg).trans c9
  have hk2 : k ≤ 39 := by omega
  rcases kB_cases hr with rfl | rfl | rfl
  · rw [show kN ⟨#[112]⟩ = 0 from rfl, hE]
    clear hE hr h HT hc ha hl h1
    go_enter Try.func84, Try.ntmps84
    go_wp2
    go_ret
    exact ⟨rfl, HB0.out⟩
  · rw [show endC L b q (kN ⟨#[98]⟩) = b from rfl]
    clear hE hr h HT hc ha hl h1
    go_enter Try.func84, Try.ntmps84
    go_wp2
    go_ret
    exact ⟨rfl, HB0.out⟩
  · rw [show endC L b q (kN ⟨#[115]⟩) = q from rfl]
    clear hE hr h HT hc ha hl h1
    go_enter Try.func84, Try.ntmps84
    go_wp2
    go_ret
    exact ⟨rfl, HB0.out⟩
end Go.Proofs.Ytkhglknpcajmiaa
