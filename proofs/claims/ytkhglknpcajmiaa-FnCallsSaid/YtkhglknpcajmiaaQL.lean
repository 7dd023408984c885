/- The laws FnExactGoodCalls, CallHead. -/
import Derived.Test.YtkhglknpcajmiaaQE
import Derived.Test.YtkhglknpcajmiaaQF
import Derived.Test.YtkhglknpcajmiaaDA
import Derived.Deep.RegionHeld3
namespace Go.Proofs.Ytkhglknpcajmiaa
open Go.RowKit
set_option linter.unusedSimpArgs false
set_option linter.unusedVariables false

theorem bothGoodCalls (s : ByteArray) (hs : s.size ≤ maxLen) (n : Int) (L : List (List Nat)) (hl : L.length ≤ 2000000) (hsm : Small L) (b q : ByteArray) (hb : b.size ≤ maxLen) (hq : q.size ≤ maxLen) :
    ∃ (t : Bool), (∀ u w, Txts w u L → Calls Try.prog 29 #[.agg #[.string s, .int .i64 n, u], .agg #[.string b, .string q]] w fun e w' => e = .returned (.bool t) ∧ Below w.heap.size w w') ∧
      (∀ u w, Txts w u L → Calls Try.prog 30 #[.agg #[.string s, .int .i64 n, u], .agg #[.string b, .string q]] w fun e w' => e = .returned (.bool t) ∧ Below w.heap.size w w') :=
  ⟨_, fun u w h => iGoodCalls_any s hs n u L b q w h hl, fun u w h => sGoodCalls_any s hs n u L b q hb hq w h hl hsm⟩
theorem bothCallHead (s : ByteArray) (hs : s.size ≤ maxLen) (n : Int) (L : List (List Nat)) (hl : L.length ≤ 2000000) (hsm : Small L) (b q : ByteArray) (hb : b.size ≤ maxLen) (hq : q.size ≤ maxLen) (r : ByteArray) (hr : r.size ≤ maxLen) :
    ∃ (t : ByteArray) (f : Bool), (∀ u w, Txts w u L → Calls Try.prog 19 #[.agg #[.string s, .int .i64 n, u], .agg #[.string b, .string q], .string r] w fun e w' => e = .returned (.tuple #[.string t, .bool f]) ∧ Below w.heap.size w w') ∧
      (∀ u w, Txts w u L → Calls Try.prog 20 #[.agg #[.string s, .int .i64 n, u], .agg #[.string b, .string q], .string r] w fun e w' => e = .returned (.tuple #[.string t, .bool f]) ∧ Below w.heap.size w w') := by
  cases hk : askK s n L b q r
  · exact ⟨_, _, fun u w h => iCallHead_no s hs n u L b q r w h hl hk, fun u w h => sCallHead_no s hs n u L b q r hb hq w h hl hsm hk⟩
  · unfold askK at hk
    rw [Bool.and_eq_true] at hk
    obtain ⟨k, rfl⟩ := goodK_cast hk.1
    exact ⟨_, _, fun u w h => iCallHead_yes s hs k u L b q r w h hl hk.1 hk.2, fun u w h => sCallHead_yes s hs k u L b q r hb hq w h hl hsm hk.1 hk.2⟩

end Go.Proofs.Ytkhglknpcajmiaa
