/- The text of a list of changes. -/
import Derived.Test.YtdflpkkcjbdpfaaDoorT1
import Derived.Test.YtdflpkkcjbdpfaaDoorK3
namespace Go.Proofs.YtdflpkkcjbdpfaaDoor
open Go.RowKit
set_option linter.unusedSimpArgs false

def isDash (l : List Nat) : Bool := (txt l).toList == [45]
/-- the text of these changes behind another, which is - or none, if d -/
def textT : Bool → List (List Nat) → List Nat
  | _, [] => []
  | d, c :: t => (if isDash c || d then c else 46 :: c) ++ textT (isDash c) t
def prevD (L : List (List Nat)) (j : Nat) : Bool := if j = 0 then true else isDash (L.getD (j - 1) [])
theorem textT_step (L : List (List Nat)) (j : Nat) (hj : j < L.length) : textT (prevD L j) (L.drop j) = (if isDash L[j] || prevD L j then L[j] else 46 :: L[j]) ++ textT (prevD L (j + 1)) (L.drop (j + 1)) := by
  rw [List.drop_eq_getElem_cons hj]
  have : prevD L (j + 1) = isDash L[j] := by simp [prevD, List.getD_eq_getElem?_getD, hj]
  rw [this]
  rfl
theorem bld_new (w : World) : Bld w.heap.size w.heap.size [] (w.alloc (.cells #[.pointer none, .slice none 0 0] 82)) := by
  refine .inl ⟨Nat.le_refl _, .slice none 0 0, ?_, ?_, by simp [Value.ownBlock]⟩
  · exact RowAt.new w _ _
  · exact ⟨rfl, .inl ⟨rfl, rfl⟩⟩
theorem ofNat_snoc (l : List Nat) (x : List Nat) : (l ++ x).map UInt8.ofNat = l.map UInt8.ofNat ++ (txt x).data.toList := by simp [txt]
theorem Bld.more {B b : Nat} {l : List UInt8} {r : List UInt8} {w : World} (h : Bld B b l w) (e : l = r) : Bld B b r w := e ▸ h

set_option maxRecDepth 100000 in
set_option maxHeartbeats 1000000 in
theorem joinChanges_any (v : Value) (L : List (List Nat)) (w : World) (h : Txts w v L) (hl : L.length ≤ 1000) (hb : (textT true L).length ≤ 100000) :
    Calls Tryd.prog 43 #[v] w fun e w' => e = .returned (.string (txt (textT true L))) ∧ Below w.heap.size w w' := by
  obtain ⟨m, hm⟩ : ∃ m, L.length = m := ⟨_, rfl⟩
  obtain ⟨a, cap, rfl, hcap, ha⟩ := h
  rw [hm] at hl ha ⊢
  have HA := Lib.hid ha
  have HM := Lib.hid hm
  have hT : [] ++ textT (prevD L 0) (L.drop 0) = textT true L := rfl
  generalize textT true L = tot at *
  have HT := Lib.hid hT
  have HB := Lib.hid hb
  have HBLD := Lib.hid (bld_new w)
  have HBEL := Lib.hid ((Below.refl w.heap.size w).alloc (Nat.le_refl _) (.cells #[.pointer none, .slice none 0 0] 82))
  clear ha hm hcap hT hb
  have hl' : (m : Int) ≤ 1000 := by omega
  go_enter Tryd.func43, Tryd.ntmps43
  go_wp2
  go_loopg [8] m (fun q i wr => ∃ j : Nat, j ≤ m ∧ q + j = m ∧ i = .int .i64 j ∧ ∃ acc, acc ++ textT (prevD L j) (L.drop j) = tot ∧ Bld w.heap.size w.heap.size (acc.map UInt8.ofNat) wr ∧ Below w.heap.size w wr)
  case atStart => exact ⟨0, by omega, rfl, rfl, [], HT.out, HBLD.out, HBEL.out⟩
  case round =>
    clear HT HBLD HBEL
    obtain ⟨j, hj, hq, rfl, acc, hf, hbl, hb⟩ := hrel
    have hacc : acc.length ≤ 100000 := by
      have := congrArg List.length hf
      simp only [List.length_append] at this
      have := HB.out
      omega
    have HACC := Lib.hid hacc
    have HF := Lib.hid hf
    have HBL := Lib.hid hbl
    have HBE := Lib.hid hb
    clear hf hbl hb hacc
    by_cases hlt : j < m
    · obtain ⟨g, off, rfl, hg, hc⟩ := HA.out (by omega)
      have hjx : j < L.length := by rw [HM.out]; exact hlt
      have c1 := (HBE.out.cell (p := ⟨g, off + j, none⟩) hg).trans (hc j hlt)
      rw [List.getD_eq_getElem?_getD, List.getElem?_eq_getElem hjx, Option.getD_some] at c1
      have hf := HF.out
      rw [textT_step L j hjx] at hf
      have hji : (j : Int) < m := by omega
      have HWS : Hid (∀ (acc2 : List Nat) (x : List Nat) wq, Bld w.heap.size w.heap.size (acc2.map UInt8.ofNat) wq → acc2.length + x.length ≤ 200100 → w.heap.size ≤ wq.heap.size → Calls Tryd.prog 64 #[.pointer (some ⟨w.heap.size, 0, none⟩), .string (txt x)] wq _) :=
        Lib.hid (fun acc2 x wq h1 h2 h3 => bWriteString w.heap.size w.heap.size (acc2.map UInt8.ofNat) (txt x) wq h1 (by rw [List.length_map, txt_size]; omega) h3)
      have hxl : (L[j]).length ≤ 100000 := by
        have := congrArg List.length hf
        have h9 := HB.out
        simp only [List.length_append] at this
        split at this
        · omega
        · simp only [List.length_cons] at this; omega
      have HX := Lib.hid hxl
      clear HF hxl
      rcases Nat.eq_zero_or_pos j with h0 | h0
      · subst h0
        have hp : prevD L 0 = true := rfl
        rw [hp, Bool.or_true, if_pos rfl, ← List.append_assoc] at hf
        have HF := Lib.hid hf
        generalize L[0] = x at *
        rw [Nat.add_zero] at c1
        clear hf hc hp
        go_wp2_with fail
        refine (HWS.out acc x _ HBL.out (by have := HACC.out; have := HX.out; omega) HBE.out.size).mono ?_
        rintro e w3 ⟨rfl, hb3, hbe3⟩
        have HB3 := Lib.hid (hb3.more (ofNat_snoc acc x).symm)
        have HE3 := Lib.hid (HBE.out.trans hbe3)
        clear hb3 hbe3
        go_wp2
        go_roundg (m - (0 + 1))
        case measure => omega
        case rel => exact ⟨1, by omega, by omega, by go_num, _, HF.out, HB3.out, HE3.out⟩
      · obtain ⟨k, rfl⟩ : ∃ k, j = k + 1 := ⟨j - 1, by omega⟩
        have hp : prevD L (k + 1) = isDash L[k] := by simp [prevD, List.getD_eq_getElem?_getD, show k < L.length by omega]
        rw [hp] at hf
        have c0 := (HBE.out.cell (p := ⟨g, off + k, none⟩) hg).trans (hc k (by omega))
        rw [List.getD_eq_getElem?_getD, List.getElem?_eq_getElem (show k < L.length by omega), Option.getD_some] at c0
        generalize L[k + 1] = x at *
        generalize L[k] = y at *
        clear hc hp h0
        have hki : (k : Int) + 1 < m := by omega
        cases hdx : isDash x
        · have hdx2 : ((txt x).toList == [45]) = false := hdx
          cases hdy : isDash y
          · have hdy2 : ((txt y).toList == [45]) = false := hdy
            rw [hdx, hdy, if_neg (by simp)] at hf
            have HF : Hid ((acc ++ [46] ++ x) ++ textT (prevD L (k + 1 + 1)) (L.drop (k + 1 + 1)) = tot) := Lib.hid (by rw [← hf]; simp)
            clear hf hdx hdy
            go_wp2_with fail
            refine (bWriteByte w.heap.size w.heap.size (acc.map UInt8.ofNat) 46 (by omega) _ HBL.out (by rw [List.length_map]; have := HACC.out; omega) HBE.out.size).mono ?_
            rintro e w2 ⟨rfl, hb2, hbe2⟩
            have HB2 : Hid (Bld w.heap.size w.heap.size ((acc ++ [46]).map UInt8.ofNat) w2) := Lib.hid (hb2.more (by simp))
            have HE2 := Lib.hid (HBE.out.trans hbe2)
            clear hb2 hbe2
            go_wp2_with fail
            refine (HWS.out (acc ++ [46]) x _ HB2.out (by have := HACC.out; have := HX.out; simp; omega) HE2.out.size).mono ?_
            rintro e w3 ⟨rfl, hb3, hbe3⟩
            have HB3 := Lib.hid (hb3.more (ofNat_snoc _ x).symm)
            have HE3 := Lib.hid (HE2.out.trans hbe3)
            clear hb3 hbe3
            go_wp2
            go_roundg (m - (k + 1 + 1))
            case measure => omega
            case rel => exact ⟨k + 1 + 1, by omega, by omega, by go_num, _, HF.out, HB3.out, HE3.out⟩
          · have hdy2 : ((txt y).toList == [45]) = true := hdy
            rw [hdx, hdy, if_pos (by simp), ← List.append_assoc] at hf
            have HF := Lib.hid hf
            clear hf hdx hdy
            go_wp2_with fail
            refine (HWS.out acc x _ HBL.out (by have := HACC.out; have := HX.out; omega) HBE.out.size).mono ?_
            rintro e w3 ⟨rfl, hb3, hbe3⟩
            have HB3 := Lib.hid (hb3.more (ofNat_snoc acc x).symm)
            have HE3 := Lib.hid (HBE.out.trans hbe3)
            clear hb3 hbe3
            go_wp2
            go_roundg (m - (k + 1 + 1))
            case measure => omega
            case rel => exact ⟨k + 1 + 1, by omega, by omega, by go_num, _, HF.out, HB3.out, HE3.out⟩
        · have hdx2 : ((txt x).toList == [45]) = true := hdx
          rw [hdx, if_pos (by simp), ← List.append_assoc] at hf
          have HF := Lib.hid hf
          clear hf hdx
          go_wp2_with fail
          refine (HWS.out acc x _ HBL.out (by have := HACC.out; have := HX.out; omega) HBE.out.size).mono ?_
          rintro e w3 ⟨rfl, hb3, hbe3⟩
          have HB3 := Lib.hid (hb3.more (ofNat_snoc acc x).symm)
          have HE3 := Lib.hid (HBE.out.trans hbe3)
          clear hb3 hbe3
          go_wp2
          go_roundg (m - (k + 1 + 1))
          case measure => omega
          case rel => exact ⟨k + 1 + 1, by omega, by omega, by go_num, _, HF.out, HB3.out, HE3.out⟩
    · obtain rfl : j = m := by omega
      have hf := HF.out
      rw [List.drop_eq_nil_of_le (by rw [HM.out]; exact Nat.le_refl _)] at hf
      have HF3 := Lib.hid (show acc = tot by rw [← hf]; simp [textT])
      clear hf HF
      go_wp2_with fail
      refine (bString w.heap.size w.heap.size _ _ HBL.out HBE.out.size).mono ?_
      rintro e w3 ⟨rfl, hbe3⟩
      go_wp2
      go_ret
      exact ⟨by rw [← HF3.out]; rfl, HBE.out.trans hbe3⟩
end Go.Proofs.YtdflpkkcjbdpfaaDoor
