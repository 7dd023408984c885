/- Lists that rise: in the program, in the model. -/
import Derived.Test.YtapcfojnljnoaaaSU
import Derived.BigQuiet
namespace Go.Proofs.Ytapcfojnljnoaaa
open Go.RowKit
set_option linter.unusedSimpArgs false
set_option linter.unusedVariables false

theorem drawnBelow {B : Nat} {W W' : World} (h : Below B W W') (n : Nat) : Below B W (W'.drewN n) := ⟨h.os, h.tape, h.output, h.size, h.block⟩
def txB (L : List (List Nat)) (i : Nat) : ByteArray := txt (L.getD i [])
def stepB (L : List (List Nat)) (k : Nat) : Bool := Op.bytesLess (txB L k).toList (txB L (k + 1)).toList
def incTo (L : List (List Nat)) : Nat → Bool
  | 0 => true
  | k + 1 => incTo L k && stepB L k
def incB (L : List (List Nat)) : Bool := incTo L (L.length - 1)
theorem incTo_le (L : List (List Nat)) : ∀ {a b : Nat}, a ≤ b → incTo L b = true → incTo L a = true
  | a, 0, h, e => by rw [show a = 0 by omega]; exact e
  | a, b + 1, h, e => by
    by_cases hab : a = b + 1
    · rw [hab]; exact e
    · have : (incTo L b && stepB L b) = true := e
      exact incTo_le L (show a ≤ b by omega) (by simp only [Bool.and_eq_true] at this; exact this.1)
theorem incB_no {L : List (List Nat)} {k : Nat} (hk : k + 1 < L.length) (h : stepB L k = false) : incB L = false := by
  cases hb : incB L with
  | false => rfl
  | true =>
    have := incTo_le L (show k + 1 ≤ L.length - 1 by omega) hb
    have : (incTo L k && stepB L k) = true := this
    rw [h, Bool.and_false] at this
    cases this

set_option maxRecDepth 100000 in
set_option maxHeartbeats 1000000 in
theorem isIncreasing_any (v : Value) (L : List (List Nat)) (w : World) (h : Txts w v L) (hl : L.length ≤ 2000000) :
    Calls Try.prog 69 #[v] w fun e w' => e = .returned (.bool (incB L)) ∧ Below w.heap.size w w' := by
  obtain ⟨m, hm⟩ : ∃ m, L.length = m := ⟨_, rfl⟩
  obtain ⟨a, cap, rfl, hcap, ha⟩ := h
  rw [hm] at hl ha ⊢
  have hl' : (m : Int) ≤ 2000000 := by omega
  generalize hres : incB L = res
  have HRES := Lib.hid hres
  have HM := Lib.hid hm
  have HA := Lib.hid ha
  clear hm hcap ha hres
  go_enter Try.func69, Try.ntmps69
  go_wp2
  go_loopg [3] m (fun q i wr => ∃ t : Nat, q + t = m ∧ i = .int .i64 ((t : Int) + 1) ∧ incTo L t = true ∧ Below w.heap.size w wr)
  case atStart => exact ⟨0, by omega, rfl, rfl, Below.refl _ _⟩
  case round =>
    obtain ⟨t, hq, rfl, hi, hb⟩ := hrel
    have HB := Lib.hid hb
    have HI := Lib.hid hi
    have HQ := Lib.hid hq
    clear hb hi
    by_cases hlt : t + 1 < m
    · obtain ⟨g, off, rfl, hg, hc⟩ := HA.out (by omega)
      have c1 := (HB.out.cell (p := ⟨g, off + t, none⟩) hg).trans (hc t (by omega))
      have c2 := (HB.out.cell (p := ⟨g, off + (t + 1), none⟩) hg).trans (hc (t + 1) (by omega))
      have hst : stepB L t = Op.bytesLess (txt (L.getD t [])).toList (txt (L.getD (t + 1) [])).toList := rfl
      generalize txt (L.getD t []) = s1 at *
      generalize txt (L.getD (t + 1) []) = s2 at *
      generalize hsb : stepB L t = sb at *
      have HSB := Lib.hid hsb
      have hlti : (t : Int) + 1 < (m : Int) := by omega
      have htt : ((t : Int) + 1).toNat = t + 1 := by omega
      have hpos : (0 : Int) ≤ (t : Int) := by omega
      have htm : (t : Int) < (m : Int) := by omega
      clear hq hlt hc hsb
      replace hst := hst.symm
      have hw1 : IntKind.i64.wrap (t : Int) = t := IntWalk.i64_in _ ⟨by omega, by omega⟩
      cases sb
      · skip
        have HN : Hid (res = false) := Lib.hid (by rw [← HRES.out]; exact incB_no (by rw [HM.out]; omega) HSB.out)
        have := HN.out
        subst this
        go_wp2
        go_quiet (fail)
        go_wp2
        go_ret
        exact ⟨rfl, drawnBelow HB.out _⟩
      · go_wp2
        go_quiet (fail)
        go_wp2
        go_roundg (gk - 1)
        case measure => have := HQ.out; omega
        case rel => exact ⟨t + 1, by have := HQ.out; omega, by go_num, by show (incTo L t && stepB L t) = true; rw [HI.out, HSB.out]; rfl, drawnBelow HB.out _⟩
    · have hge : ¬ (t : Int) + 1 < (m : Int) := by omega
      have hr : true = res := by rw [← HRES.out]; exact (incTo_le L (by rw [HM.out]; omega) HI.out).symm
      subst hr
      clear hlt HRES
      go_wp2
      go_ret
      exact ⟨rfl, HB.out⟩

set_option maxRecDepth 100000 in
set_option maxHeartbeats 1000000 in
theorem l6Rising_any (v : Value) (L : List (List Nat)) (w : World) (h : Txts w v L) (hl : L.length ≤ 2000000) (hs : ∀ l ∈ L, l.length ≤ maxLen) :
    Calls Try.prog 67 #[v] w fun e w' => e = .returned (.bool (incB L && listB L)) ∧ Below w.heap.size w w' := by
  have HR := Lib.hid (fun w h => l6Rows_any v L w h hl hs)
  have HT := Lib.hid h
  obtain ⟨m, hm⟩ : ∃ m, L.length = m := ⟨_, rfl⟩
  obtain ⟨a, cap, rfl, hcap, ha⟩ := h
  rw [hm] at hl ha HR HT ⊢
  have hl' : (m : Int) ≤ 2000000 := by omega
  generalize hres : incB L = res
  have HRES := Lib.hid hres
  have HM := Lib.hid hm
  have HA := Lib.hid ha
  generalize listB L = lb at *
  clear hm hcap ha hres hs
  go_enter Try.func67, Try.ntmps67
  go_wp2
  go_loopg [6] m (fun q i wr => ∃ t : Nat, q + t = m ∧ i = .int .i64 t ∧ incTo L (t - 1) = true ∧ Below w.heap.size w wr)
  case atStart => exact ⟨0, by omega, rfl, rfl, Below.refl _ _⟩
  case round =>
    obtain ⟨t, hq, rfl, hi, hb⟩ := hrel
    have HB := Lib.hid hb
    have HI := Lib.hid hi
    have HQ := Lib.hid hq
    clear hb hi
    by_cases hlt : t < m
    · have hlti : (t : Int) < (m : Int) := by omega
      cases t with
      | zero =>
        have h00 : decide ((0 : Int) < ((0 : Nat) : Int)) = false := by decide
        clear hq hlt
        go_wp2
        go_quiet (fail)
        go_wp2
        go_roundg (gk - 1)
        case measure => have := HQ.out; omega
        case rel => exact ⟨1, by have := HQ.out; omega, by go_num, rfl, drawnBelow HB.out _⟩
      | succ t =>
        obtain ⟨g, off, rfl, hg, hc⟩ := HA.out (by omega)
        have c1 := (HB.out.cell (p := ⟨g, off + t, none⟩) hg).trans (hc t (by omega))
        have c2 := (HB.out.cell (p := ⟨g, off + (t + 1), none⟩) hg).trans (hc (t + 1) (by omega))
        have hst : stepB L t = Op.bytesLess (txt (L.getD t [])).toList (txt (L.getD (t + 1) [])).toList := rfl
        generalize txt (L.getD t []) = s1 at *
        generalize txt (L.getD (t + 1) []) = s2 at *
        generalize hsb : stepB L t = sb at *
        have HSB := Lib.hid hsb
        have hti : ((t + 1 : Nat) : Int) = (t : Int) + 1 := by omega
        rw [hti] at hlti ⊢
        have hpp : (0 : Int) < (t : Int) + 1 := by omega
        have htt : ((t : Int) + 1).toNat = t + 1 := by omega
        have hpos : (0 : Int) ≤ (t : Int) := by omega
        have htm : (t : Int) < (m : Int) := by omega
        replace hst := hst.symm
        have hw1 : IntKind.i64.wrap (t : Int) = t := IntWalk.i64_in _ ⟨by omega, by omega⟩
        clear hq hlt hc hsb hti
        cases sb
        · have HN : Hid (res = false) := Lib.hid (by rw [← HRES.out]; exact incB_no (by rw [HM.out]; have := HQ.out; omega) HSB.out)
          have := HN.out
          subst this
          go_wp2
          go_quiet (fail)
          go_wp2
          go_ret
          exact ⟨rfl, drawnBelow HB.out _⟩
        · go_wp2
          go_quiet (fail)
          go_wp2
          go_roundg (gk - 1)
          case measure => have := HQ.out; omega
          case rel => exact ⟨t + 2, by have := HQ.out; omega, by go_num, by show (incTo L t && stepB L t) = true; rw [show incTo L t = true from HI.out, HSB.out]; rfl, drawnBelow HB.out _⟩
    · have hge : ¬ (t : Int) < (m : Int) := by omega
      have hr : true = res := by rw [← HRES.out]; exact (incTo_le L (by rw [HM.out]; omega) HI.out).symm
      subst hr
      have HT2 := Lib.hid (HT.out.kept HB.out)
      clear hlt HRES
      go_wp2_with fail
      refine (HR.out _ HT2.out).mono ?_
      rintro e w5 ⟨rfl, hb5⟩
      have HB5 := Lib.hid (HB.out.trans (hb5.mono HB.out.size))
      clear hb5
      go_wp2
      go_ret
      exact ⟨by simp, HB5.out⟩
end Go.Proofs.Ytapcfojnljnoaaa
