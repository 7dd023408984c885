/- HalvesOf in the program. -/
import Derived.Test.YtdflpkkcjbdpfaaDoorH2
import Derived.Test.YtdflpkkcjbdpfaaDoorJ2
namespace Go.Proofs.YtdflpkkcjbdpfaaDoor
open Go.RowKit
set_option linter.unusedSimpArgs false

/-- the halves with the longest first part of at most s elements -/
def halvesF (L : List (List Nat)) : Nat → Option (List (List Nat) × List (List Nat))
  | 0 => none
  | s + 1 => if palB (L.take (s + 1)) && palB (L.drop (s + 1)) then some (half (L.take (s + 1)), half (L.drop (s + 1))) else halvesF L s
theorem halvesF_pos (L : List (List Nat)) (k : Nat) (hk : 0 < k) : halvesF L k = if palB (L.take k) && palB (L.drop k) then some (half (L.take k), half (L.drop k)) else halvesF L (k - 1) := by
  obtain ⟨s, rfl⟩ : ∃ s, k = s + 1 := ⟨k - 1, by omega⟩
  rfl
def halves (L : List (List Nat)) : Option (List (List Nat) × List (List Nat)) := halvesF L (L.length - 1)
/-- two slices of its own, apart from each other -/
def TwoRes (r : Option (List (List Nat) × List (List Nat))) (w : World) (e : Ending) (w' : World) : Prop :=
  ∃ va vb, e = .returned (.tuple #[va, vb, .bool r.isSome]) ∧ New w.heap.size w' 9 va (strs (r.getD ([], [])).1) ∧ New w.heap.size w' 9 vb (strs (r.getD ([], [])).2) ∧
    (∀ g, va.ownBlock = some g → vb.ownBlock ≠ some g) ∧ Below w.heap.size w w'

set_option maxRecDepth 100000 in
set_option maxHeartbeats 1000000 in
theorem iHalves_in (n : Int) (v : Value) (L : List (List Nat)) (w : World) (h : Txts w v L) (hg : goodAll n L = true) (hl : 1 ≤ L.length ∧ L.length ≤ 40) :
    Calls Tryd.prog 7 #[.int .i64 n, v] w (TwoRes (halves L) w) := by
  obtain ⟨m, hm⟩ : ∃ m, L.length = m := ⟨_, rfl⟩
  have HG := Lib.hid (iGoodChanges_any n v L w h (by omega))
  rw [hg] at HG
  have hh : halvesF L (m - 1) = halves L := by unfold halves; rw [hm]
  obtain ⟨a, cap, rfl, hcap, _⟩ := id h
  rw [hm] at h hl HG ⊢
  have HT := Lib.hid h
  have HM := Lib.hid hm
  generalize halves L = res at *
  have HH := Lib.hid hh
  have hl1 : (1 : Int) ≤ m := by omega
  have hl2 : (m : Int) ≤ 40 := by omega
  clear h hm hcap hh hg
  go_enter Tryd.func7, Tryd.ntmps7
  go_wp2_with fail
  refine HG.out.mono ?_
  rintro e w1 ⟨rfl, hb1⟩
  have HB1 := Lib.hid hb1
  clear hb1 HG
  go_wp2
  go_loopg [7] (m - 1) (fun q si wr => ∃ k : Nat, q = k ∧ k + 1 ≤ m ∧ si = .int .i64 k ∧ halvesF L k = res ∧ Below w.heap.size w wr)
  case atStart => exact ⟨m - 1, rfl, by omega, by congr 1; omega, HH.out, HB1.out⟩
  case round =>
    clear HH HB1
    obtain ⟨k, hqk, hk, rfl, hf, hb⟩ := hrel
    have HF := Lib.hid hf
    have HB := Lib.hid hb
    clear hf hb
    rcases Nat.eq_zero_or_pos k with h0 | h0
    · subst h0
      have HR : Hid (res = none) := Lib.hid HF.out.symm
      clear HF
      go_wp2
      go_ret3
      exact ⟨_, _, by rw [HR.out]; rfl, by rw [HR.out]; exact New.nil _ _ _, by rw [HR.out]; exact New.nil _ _ _, fun g hg => by simp [Value.ownBlock] at hg, HB.out⟩
    · obtain ⟨u1, hu1, ht1⟩ := slice_h (HT.out.kept HB.out) k (by rw [HM.out]; omega)
      obtain ⟨u2, hu2, ht2⟩ := slice_l (HT.out.kept HB.out) k (by rw [HM.out]; omega)
      have hs1 : (0 : Int) < (k : Int) := by omega
      have HF2 := Lib.hid ((halvesF_pos L k h0).symm.trans HF.out)
      have HT1 := Lib.hid ht1
      have HT2 := Lib.hid ht2
      have hlen1 : (L.take k).length ≤ 1000 := by have := HM.out; simp; omega
      have hlen2 : (L.drop k).length ≤ 1000 := by have := HM.out; simp; omega
      have HL1 := Lib.hid hlen1
      have HL2 := Lib.hid hlen2
      clear ht1 ht2 HF hlen1 hlen2
      generalize L.take k = X at *
      generalize L.drop k = Y at *
      go_wp2_with fail
      refine (mirrorStart_any u1 X _ HT1.out HL1.out).mono ?_
      rintro e w2 ⟨v2, rfl, hn2, hb2⟩
      have HB2 := Lib.hid (HB.out.trans (hb2.mono HB.out.size))
      have HN2 := Lib.hid hn2
      have HT22 := Lib.hid (HT2.out.kept hb2)
      have HBASE := Lib.hid HB.out.size
      clear hn2 hb2 HT2 HB
      go_wp2_with fail
      refine (mirrorStart_any u2 Y _ HT22.out HL2.out).mono ?_
      rintro e w3 ⟨v3, rfl, hn3, hb3⟩
      have HB3 := Lib.hid (HB2.out.trans (hb3.mono HB2.out.size))
      have HAP : Hid (∀ g, v2.ownBlock = some g → v3.ownBlock ≠ some g) := Lib.hid (fun g h2 h3 => by
        have := HN2.out.own.lt g h2
        have := hn3.base g h3
        omega)
      have HN23 := Lib.hid ((HN2.out.kept hb3).lower HBASE.out)
      have HN3 := Lib.hid (hn3.lower HB2.out.size)
      have hf := HF2.out
      clear hn3 hb3 HB2 HN2 HF2
      cases hp1 : palB X <;> cases hp2 : palB Y
      case true.true =>
        rw [hp1, hp2] at hf
        have HR : Hid (res = some (half X, half Y)) := Lib.hid hf.symm
        have e1 : mirR X = half X := by unfold mirR; rw [hp1]; rfl
        have e2 : mirR Y = half Y := by unfold mirR; rw [hp2]; rfl
        rw [e1] at HN23
        rw [e2] at HN3
        clear hf e1 e2 hp1 hp2
        go_wp2
        go_ret3
        exact ⟨v2, v3, by rw [HR.out]; rfl, by rw [HR.out]; exact HN23.out, by rw [HR.out]; exact HN3.out, HAP.out, HB3.out⟩
      all_goals
        rw [hp1, hp2] at hf
        have HR : Hid (halvesF L (k - 1) = res) := Lib.hid hf
        clear hf hp1 hp2
        go_wp2
        go_roundg (k - 1)
        case measure => omega
        case rel => exact ⟨k - 1, rfl, by omega, by congr 1; omega, HR.out, HB3.out⟩
end Go.Proofs.YtdflpkkcjbdpfaaDoor
