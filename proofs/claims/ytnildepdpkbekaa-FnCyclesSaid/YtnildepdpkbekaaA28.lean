/- Cycles: the program's walk along one, and the model's question whether a number is in a list. -/
import Derived.Test.YtnildepdpkbekaaA22
import Derived.Test.YtnildepdpkbekaaP8
import Derived.Test.YtnildepdpkbekaaO3
namespace Go.Proofs.Ytnildepdpkbekaa
open Go.RowKit
set_option linter.unusedSimpArgs false

theorem infoInt : (Try.prog.info? 3).map (fun i => (i.zero, i.size, i.bytes)) = some (some (.int .i64 0), 1, 8) := by kernel_rfl
theorem infoInts : (Try.prog.info? 37).map (fun i => (i.zero, i.size, i.bytes)) = some (some (.slice none 0 0), 1, 24) := by kernel_rfl

set_option maxRecDepth 100000 in
set_option maxHeartbeats 1000000 in
theorem l1Has_any (v : Value) (xs : List Int) (x : Int) (w : World) (h : Own w 3 v (ints xs)) (hb : xs.length ≤ 1000000) (b : Bool) (hx : decide (x ∈ xs) = b) :
    Calls Try.prog 49 #[v, .int .i64 x] w fun e w' => e = .returned (.bool b) ∧ w = w' := by
  obtain ⟨n, hn⟩ : ∃ n, xs.length = n := ⟨_, rfl⟩
  obtain ⟨a, cap, rfl, ha⟩ := h.viewI hn
  rw [hn] at hb
  have HO := Lib.hid h
  have HA := Lib.hid ha
  have HN := Lib.hid hn
  have HX := Lib.hid hx
  clear h ha hn hx
  go_enter Try.func49, Try.ntmps49
  go_wp2
  go_loopg [4, 6, 9] n (fun q r _ i wr => ∃ k : Nat, k ≤ n ∧ q + k = n ∧ i = .int .i64 k ∧ r = .bool false ∧ (∀ j, j < k → ∀ (hj : j < xs.length), xs[j] ≠ x) ∧ w = wr)
  case atStart => exact ⟨0, Nat.zero_le _, rfl, rfl, rfl, fun j hj => absurd hj (by omega), rfl⟩
  case round =>
    obtain ⟨k, hk, hq, rfl, rfl, hno, rfl⟩ := hrel
    have HQ := Lib.hid hq
    have HNO := Lib.hid hno
    clear hq hno
    by_cases hlt : k < n
    · obtain ⟨g, rfl⟩ := HA.out (by omega)
      have hkx : k < xs.length := by rw [HN.out]; exact hlt
      have c1 := HO.out.cell k _ (ints_at xs k hkx)
      have hki : (k : Int) < n := by omega
      by_cases heq : xs[k] = x
      · have hb1 : b = true := by rw [← HX.out]; simp; rw [← heq]; exact List.getElem_mem hkx
        subst hb1
        rw [heq] at c1
        clear heq
        go_wp2
        go_ret
        exact ⟨rfl, rfl⟩
      · have hne : (xs[k] == x) = false := by simpa using heq
        have HNE := Lib.hid heq
        clear heq
        generalize hy : xs[k] = y at c1 hne
        have HY := Lib.hid hy
        clear hy
        go_wp2
        go_roundg (n - (k + 1))
        case measure => have := HQ.out; omega
        case rel =>
          refine ⟨k + 1, by omega, by have := HQ.out; omega, by go_num, rfl, fun j hj hjx => ?_, rfl⟩
          by_cases e : j = k
          · subst e; exact HNE.out
          · exact HNO.out j (by omega) hjx
    · obtain rfl : k = n := by omega
      have hb1 : b = false := by
        rw [← HX.out]
        simp
        intro hmem
        obtain ⟨j, hj, e⟩ := List.getElem_of_mem hmem
        exact HNO.out j (by rw [← HN.out]; exact hj) hj e
      subst hb1
      go_wp2
      go_ret
      exact ⟨rfl, rfl⟩

/-- a new slice of numbers: its blocks lie from B on -/
def NewInts (B : Nat) (W : World) (v : Value) (xs : List Int) : Prop := Own W 3 v (ints xs) ∧ ∀ g, v.ownBlock = some g → B ≤ g
def Cycle (n : Nat) (f : Nat → Nat) (i : Nat) (w : World) (e : Ending) (w' : World) : Prop := ∃ v, e = .returned v ∧ NewInts w.heap.size w' v (cyc n f i) ∧ Below w.heap.size w w'

set_option maxRecDepth 100000 in
set_option maxHeartbeats 1000000 in
theorem cycleFrom_any (n : Nat) (f : Nat → Nat) (hf : IsRow n f) (i : Nat) (hi : i < n) (w : World) :
    Calls Try.prog 48 #[.agg (dig8 f), .int .i64 ((i : Int) + 1)] w (Cycle n f i w) := by
  have h8 := hf.eight
  have hp := perN_spec hf hi
  obtain ⟨i0, hi0, hz0, hz1, hz2⟩ := info_parts infoInt
  have HF := Lib.hid hf
  have HP := Lib.hid hp
  have I0 := Lib.hid hi0
  have Z0 := Lib.hid hz0
  have Z1 := Lib.hid hz1
  have Z2 := Lib.hid hz2
  have hlo := hf.lo i hi
  have hhi := hf.hi i hi
  have hlo' : (49 : Int) ≤ f i := by omega
  have hhi' : (f i : Int) ≤ 56 := by omega
  clear hf hp hi0 hz0 hz1 hz2
  have hi8 : i < 8 := by omega
  have c0' := ((RowAt.new w 56 (dig8 f)).push (.cells #[.int .i64 ((i : Int) + 1)] 3)).cell i (dig8_get f i hi8)
  go_enter Try.func48, Try.ntmps48
  go_wp2
  rw [show ((f i : Int) - 48) = ((orb n f i 1 : Nat) : Int) + 1 from by
    have e1 : orb n f i 1 = f i - 49 := by
      have := orb_succ HF.out hi 0
      rw [orb_zero f hi] at this
      exact this
    rw [e1]; omega]
  clear c0'
  generalize hper : perN n f i = m at HP
  go_loopg [5, 6] m (fun q v x wr => ∃ (k : Nat), 1 ≤ k ∧ k ≤ m ∧ q + k = m + 1 ∧ x = .int .i64 ((orb n f i k : Nat) + 1) ∧ NewInts (w.heap.size + 1) wr v (cycTo n f i k) ∧ RowAt wr w.heap.size 56 (dig8 f) ∧ Below w.heap.size w wr)
  case atStart =>
    refine ⟨1, Nat.le_refl _, HP.out.pos, by omega, rfl, ⟨?_, fun g hg => ?_⟩, (RowAt.new w 56 (dig8 f)).push _, ((Below.refl _ w).alloc (Nat.le_refl _) _).alloc (by simp) _⟩
    · have := Own.lit (w.alloc (.cells (dig8 f) 56)) 3 [.int .i64 ((i : Int) + 1)] (by simp)
      have e : ints (cycTo n f i 1) = [.int .i64 ((i : Int) + 1)] := by simp [ints, cycTo, orb_zero f hi]
      rw [e]
      simpa using this
    · simp [Value.ownBlock] at hg; omega
  case round =>
    obtain ⟨k, hk1, hkm, hq, rfl, hnew, hrow, hbel⟩ := hrel
    have HQ := Lib.hid hq
    have HNEW := Lib.hid hnew
    have HROW := Lib.hid hrow
    have HB := Lib.hid hbel
    have hob := orb_lt HF.out hi k
    clear hq hnew hrow hbel
    by_cases hlt : k < m
    · have hne0 := HP.out.least k hk1 hlt
      have hsucc := orb_succ HF.out hi k
      have hcs := cycTo_succ n f i k
      have hcl := cycTo_len n f i k
      have hml := HP.out.le
      generalize orb n f i k = ob at *
      have hne : (((ob : Nat) : Int) + 1 != (i : Int) + 1) = true := by simp; omega
      have hflo := HF.out.lo ob hob
      have hfhi := HF.out.hi ob hob
      have hflo' : (49 : Int) ≤ f ob := by omega
      have hfhi' : (f ob : Int) ≤ 56 := by omega
      have HS := Lib.hid hsucc
      have HCS := Lib.hid hcs
      have HCL := Lib.hid hcl
      clear hsucc hcs hne0 hcl
      have hob8 : ob < 8 := by omega
      have hlen : (ints (cycTo n f i k)).length = k := by rw [ints_len, HCL.out]
      have HLEN := Lib.hid hlen
      clear hlen
      go_wp2_with (at_builtin; refine wpList_app rfl (.tmp 24) (.tmp 26) 37 rfl 3 i0 (.int .i64 0) 8 Try.underlying37 I0.out Z0.out Z1.out Z2.out rfl _ _ rfl (HNEW.out.1.alloc _) ⟨wr.heap.size, 0, none⟩ 1 1 [.int .i64 (((ob : Nat) : Int) + 1)] rfl rfl ?c1 ?c2 ?c3 ?c4 ?_)
      case c1 =>
        intro j u hj
        have : j = 0 := by
          have := (List.getElem?_eq_some_iff.1 hj).1
          simpa using this
        subst this
        simp at hj
        subst hj
        simp [Addr.add]
      case c2 => intro u hu; simp at hu; subst hu; rfl
      case c3 => rw [HLEN.out]; omega
      case c4 => rw [HLEN.out]; unfold maxLen; omega
      intro v' w' hown' hgrow hfresh _
      have hne5 : ∀ b, u5.ownBlock = some b → w.heap.size + 1 ≤ b := HNEW.out.2
      have hnew' : NewInts (w.heap.size + 1) w' v' (cycTo n f i (k + 1)) := by
        refine ⟨by rw [HCS.out]; simpa [ints] using hown', fun b hb => ?_⟩
        have hsz := HB.out.size
        have hrl := HROW.out.lt
        rcases hfresh b hb with h | h
        · exact hne5 b h
        · simp at h; omega
      have hrow' : RowAt w' w.heap.size 56 (dig8 f) := by
        refine (hgrow.block w.heap.size (HROW.out.push _).lt (fun e => ?_)).trans (HROW.out.push _)
        have := hne5 w.heap.size e.symm
        omega
      have hbel' : Below w.heap.size w w' := (HB.out.alloc HB.out.size _).grown hgrow (by have := HB.out.size; simp; omega) (fun b hb => by have := hne5 b hb; omega)
      have HNEW' := Lib.hid hnew'
      have HROW' := Lib.hid hrow'
      have HB' := Lib.hid hbel'
      have c1 := hrow'.cell ob (dig8_get f ob hob8)
      clear hown' hgrow hfresh hne5 hnew' hrow' hbel'
      go_wp2
      go_roundg (m + 1 - (k + 1))
      case measure => have := HQ.out; omega
      case rel => exact ⟨k + 1, by omega, by omega, by omega, by rw [HS.out]; congr 1; omega, HNEW'.out, HROW'.out, HB'.out⟩
    · obtain rfl : k = m := by omega
      have hback := HP.out.back
      have hne : (((orb n f i k : Nat) : Int) + 1 != (i : Int) + 1) = false := by simp [hback]
      have HBK := Lib.hid hback
      have HPER := Lib.hid hper
      clear hback hper
      go_wp2
      go_ret
      exact ⟨u5, rfl, by unfold cyc; rw [HPER.out]; exact ⟨HNEW.out.1, fun b hb => by have := HNEW.out.2 b hb; omega⟩, HB.out⟩
end Go.Proofs.Ytnildepdpkbekaa
