/- The text of a list of changes in the model. -/
import Derived.Test.YtdflpkkcjbdpfaaDoorT2
namespace Go.Proofs.YtdflpkkcjbdpfaaDoor
open Go.RowKit
set_option linter.unusedSimpArgs false

set_option maxRecDepth 100000 in
set_option maxHeartbeats 1000000 in
theorem l3Text_any (v : Value) (L : List (List Nat)) (w : World) (h : Txts w v L) (hl : L.length ≤ 1000) (hb : (textT true L).length ≤ 100000) :
    Calls Tryd.prog 44 #[v] w fun e w' => e = .returned (.string (txt (textT true L))) ∧ w = w' := by
  obtain ⟨m, hm⟩ : ∃ m, L.length = m := ⟨_, rfl⟩
  obtain ⟨a, cap, rfl, hcap, ha⟩ := h
  rw [hm] at hl ha ⊢
  have HA := Lib.hid ha
  have HM := Lib.hid hm
  have hT : [] ++ textT (prevD L 0) (L.drop 0) = textT true L := rfl
  generalize textT true L = tot at *
  have HT := Lib.hid hT
  have HB := Lib.hid hb
  clear ha hm hcap hT hb
  have hl' : (m : Int) ≤ 1000 := by omega
  go_enter Tryd.func44, Tryd.ntmps44
  go_wp2
  go_loopg [3, 8] m (fun q s i wr => ∃ j : Nat, j ≤ m ∧ q + j = m ∧ i = .int .i64 j ∧ ∃ acc, s = .string (txt acc) ∧ acc ++ textT (prevD L j) (L.drop j) = tot ∧ w = wr)
  case atStart => exact ⟨0, by omega, rfl, rfl, [], rfl, HT.out, rfl⟩
  case round =>
    clear HT
    obtain ⟨j, hj, hq, rfl, acc, rfl, hf, rfl⟩ := hrel
    have hacc : acc.length ≤ 100000 := by
      have := congrArg List.length hf
      simp only [List.length_append] at this
      have := HB.out
      omega
    have HACC := Lib.hid hacc
    have HF := Lib.hid hf
    have hal : (txt acc).size ≤ 100000 := by rw [txt_size]; exact hacc
    clear hf hacc
    by_cases hlt : j < m
    · obtain ⟨g, off, rfl, hg, hc⟩ := HA.out (by omega)
      have hjx : j < L.length := by rw [HM.out]; exact hlt
      have c1 := hc j hlt
      rw [List.getD_eq_getElem?_getD, List.getElem?_eq_getElem hjx, Option.getD_some] at c1
      have hf := HF.out
      rw [textT_step L j hjx] at hf
      have hji : (j : Int) < m := by omega
      have hxl : (L[j]).length ≤ 100000 := by
        have := congrArg List.length hf
        have h9 := HB.out
        simp only [List.length_append] at this
        split at this
        · omega
        · simp only [List.length_cons] at this; omega
      have hxs : (txt L[j]).size ≤ 100000 := by rw [txt_size]; exact hxl
      clear HF hxl
      rcases Nat.eq_zero_or_pos j with h0 | h0
      · subst h0
        have hp : prevD L 0 = true := rfl
        rw [hp, Bool.or_true, if_pos rfl, ← List.append_assoc] at hf
        have HF := Lib.hid hf
        generalize L[0] = x at *
        rw [Nat.add_zero] at c1
        clear hf hc hp
        go_wp2
        go_roundg (m - (0 + 1))
        case measure => omega
        case rel => exact ⟨1, by omega, by omega, by go_num, _, by rw [txt_app], HF.out, rfl⟩
      · obtain ⟨k, rfl⟩ : ∃ k, j = k + 1 := ⟨j - 1, by omega⟩
        have hp : prevD L (k + 1) = isDash L[k] := by simp [prevD, List.getD_eq_getElem?_getD, show k < L.length by omega]
        rw [hp] at hf
        have c0 := hc k (by omega)
        rw [List.getD_eq_getElem?_getD, List.getElem?_eq_getElem (show k < L.length by omega), Option.getD_some] at c0
        generalize L[k + 1] = x at *
        generalize L[k] = y at *
        clear hc hp h0
        have hki : (k : Int) + 1 < m := by omega
        cases hdx : isDash x
        · have hdx2 : ((txt x).toList == [45]) = false := hdx
          cases hdy : isDash y
          · have hdy2 : ((txt y).toList == [45]) = false := hdy
            rw [hdx, hdy, if_neg (by simp)] at hf
            have HF : Hid ((acc ++ [46] ++ x) ++ textT (prevD L (k + 1 + 1)) (L.drop (k + 1 + 1)) = tot) := Lib.hid (by rw [← hf]; simp)
            clear hf hdx hdy
            go_wp2
            go_roundg (m - (k + 1 + 1))
            case measure => omega
            case rel => exact ⟨k + 1 + 1, by omega, by omega, by go_num, _, by rw [txt_app, txt_app]; rfl, HF.out, rfl⟩
          · have hdy2 : ((txt y).toList == [45]) = true := hdy
            rw [hdx, hdy, if_pos (by simp), ← List.append_assoc] at hf
            have HF := Lib.hid hf
            clear hf hdx hdy
            go_wp2
            go_roundg (m - (k + 1 + 1))
            case measure => omega
            case rel => exact ⟨k + 1 + 1, by omega, by omega, by go_num, _, by rw [txt_app], HF.out, rfl⟩
        · have hdx2 : ((txt x).toList == [45]) = true := hdx
          rw [hdx, if_pos (by simp), ← List.append_assoc] at hf
          have HF := Lib.hid hf
          clear hf hdx
          go_wp2
          go_roundg (m - (k + 1 + 1))
          case measure => omega
          case rel => exact ⟨k + 1 + 1, by omega, by omega, by go_num, _, by rw [txt_app], HF.out, rfl⟩
    · obtain rfl : j = m := by omega
      have hf := HF.out
      rw [List.drop_eq_nil_of_le (by rw [HM.out]; exact Nat.le_refl _)] at hf
      have HF3 := Lib.hid (show acc = tot by rw [← hf]; simp [textT])
      clear hf HF
      go_wp2
      go_ret
      exact ⟨by rw [← HF3.out]; rfl, rfl⟩
end Go.Proofs.YtdflpkkcjbdpfaaDoor
