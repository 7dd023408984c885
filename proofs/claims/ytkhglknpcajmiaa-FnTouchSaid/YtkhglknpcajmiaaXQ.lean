/- Touches in the model: what is asked, the heads. -/
import Derived.Test.YtkhglknpcajmiaaQD
import Derived.Test.YtkhglknpcajmiaaXB
import Derived.Deep.RegionHeld3
namespace Go.Proofs.Ytkhglknpcajmiaa
open Go.RowKit
set_option linter.unusedSimpArgs false
set_option linter.unusedVariables false

/-- a method with calls and a touch -/
def askT (s : ByteArray) (n : Int) (L : List (List Nat)) (b q t : ByteArray) : Bool := goodK s n L b q && goodT t

set_option maxRecDepth 100000 in
set_option maxHeartbeats 1000000 in
theorem l9Asked_any (s : ByteArray) (hs : s.size ≤ maxLen) (n : Int) (v : Value) (L : List (List Nat)) (b q t : ByteArray) (hb : b.size ≤ maxLen) (hq : q.size ≤ maxLen) (ht : t.size ≤ maxLen) (w : World) (h : Txts w v L) (hl : L.length ≤ 2000000) (hsm : Small L) :
    Calls Try.prog 110 #[.agg #[.string s, .int .i64 n, v], .agg #[.string b, .string q], .string t] w fun e w' => e = .returned (.bool (askT s n L b q t)) ∧ Below w.heap.size w w' := by
  obtain ⟨a, cap, rfl, hcap, -⟩ := id h
  have HT := Lib.hid h
  have HR0 := Lib.hid ((RowAt.new w 25 #[.string s, .int .i64 n, .slice a L.length cap]).push (.cells #[.string b, .string q] 27))
  have HK0 : Hid (RowAt ((w.alloc (.cells #[.string s, .int .i64 n, .slice a L.length cap] 25)).alloc (.cells #[.string b, .string q] 27)) (w.heap.size + 1) 27 #[.string b, .string q]) := Lib.hid (by
    have := RowAt.new (w.alloc (.cells #[.string s, .int .i64 n, .slice a L.length cap] 25)) 27 #[.string b, .string q]
    simpa using this)
  have HB0 := Lib.hid (((Below.refl _ w).alloc (Nat.le_refl _) (.cells #[.string s, .int .i64 n, .slice a L.length cap] 25)).alloc (by simp) (.cells #[.string b, .string q] 27))
  have HG := Lib.hid (fun w h => l8Good_any s hs n (.slice a L.length cap) L b q hb hq w h hl hsm)
  have HC := Lib.hid (l9Good_any t ht)
  have hgk : askT s n L b q t = (goodK s n L b q && goodT t) := rfl
  rw [hgk]
  generalize goodK s n L b q = gk at *
  generalize goodT t = kb at *
  clear h hcap hl hsm hb hq hgk ht
  generalize L.length = m at *
  go_enter Try.func110, Try.ntmps110
  go_wp2_with (first | (refine wpList_load_row rfl 25 _ rfl _ rfl 25 _ _ _ (HR0.out) Try.underlying25 rfl (by kernel_rfl) ?_) | (refine wpList_load_row rfl 27 _ rfl _ rfl 27 _ _ _ (HK0.out) Try.underlying27 rfl (by kernel_rfl) ?_) | fail)
  refine (HG.out _ (HT.out.kept HB0.out)).mono ?_
  rintro e w1 ⟨rfl, hb1⟩
  have HB1 := Lib.hid (HB0.out.trans (hb1.mono HB0.out.size))
  clear hb1 HG HB0 HR0 HK0
  cases gk
  · go_wp2
    go_ret
    exact ⟨rfl, HB1.out⟩
  · go_wp2_with (first | (go_at_call 117; refine (HC.out _).mono ?_; rintro e w2 ⟨rfl, rfl⟩) | fail)
    go_ret
    exact ⟨by simp, HB1.out⟩
end Go.Proofs.Ytkhglknpcajmiaa
