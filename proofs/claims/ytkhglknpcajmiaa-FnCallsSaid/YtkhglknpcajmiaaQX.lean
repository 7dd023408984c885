/- What the law on calls asks of a method with calls. -/
import Derived.Test.YtkhglknpcajmiaaQG
import Derived.Test.YtkhglknpcajmiaaQH
import Derived.Test.YtkhglknpcajmiaaQP
import Derived.Test.YtkhglknpcajmiaaDA
namespace Go.Proofs.Ytkhglknpcajmiaa
open Go.RowKit
set_option linter.unusedSimpArgs false
set_option linter.unusedVariables false

theorem twoB_two {n : Nat} {f g : Nat → Nat} (hf : IsRow n f) (hg : IsRow n g) : twoB (strOf n f) (strOf n g) = true := by
  have h1 := goodB_strOf hf
  have h2 := goodB_strOf hg
  unfold twoB
  simp [h1, h2, strOf_size]
theorem times_two {n : Nat} {f g : Nat → Nat} (hf : IsRow n f) (hg : IsRow n g) (w : World) :
    Calls Try.prog 32 #[.string (strOf n f), .string (strOf n g)] w fun e w' => e = .returned (.tuple #[.string (strOf n (mulR n f g)), .bool true]) ∧ Below w.heap.size w w' := by
  have h8 := hf.eight
  refine (sTimes_yes (strOf n f) (strOf n g) (by rw [strOf_size]; unfold maxLen; omega) (by rw [strOf_size]; unfold maxLen; omega) (twoB_two hf hg) w).mono ?_
  rintro e w' ⟨rfl, hb⟩
  rw [strOf_size, dg_strOf hf, dg_strOf hg, strOf_mul]
  exact ⟨rfl, hb⟩
theorem power_back {n : Nat} {f : Nat → Nat} (hf : IsRow n f) {o : Nat} (ho : IsOrd n f o) (w : World) :
    Calls Try.prog 34 #[.string (strOf n f), .int .i64 o] w fun e w' => e = .returned (.tuple #[.string (strOf n (rdf n)), .bool true]) ∧ Below w.heap.size w w' := by
  have h1 := ho.le
  refine (sPowerOf_yes n f hf (o : Int) (by omega) (by omega) w).mono ?_
  rintro e w' ⟨rfl, hb⟩
  have e1 : powZ n f (o : Int) = rdf n := by
    unfold powZ
    rw [if_neg (by omega), Int.toNat_natCast]
    exact ho.back
  rw [e1]
  exact ⟨rfl, hb⟩
theorem calledL_eq {L : List (List Nat)} (h : 1 ≤ L.length) (c : ByteArray) : calledL L c = L.take (L.length - 1) ++ [lets c] := by
  unfold calledL
  conv => lhs; rw [← take_last h]
  have hl : (L.take (L.length - 1)).length = L.length - 1 := by rw [List.length_take]; omega
  have hl2 : (L.take (L.length - 1) ++ [L.getD (L.length - 1) []]).length - 1 = (L.take (L.length - 1)).length := by rw [List.length_append, hl]; simp
  rw [List.set_append_right _ _ (by rw [hl]; simp), hl]
  simp
theorem good_called {s : ByteArray} {n : Nat} {L : List (List Nat)} {b q : ByteArray} (h : goodK s n L b q = true) (k : Nat) : goodM s n (calledL L (endC L b q k)) = true := by
  have hm := goodM_parts (goodK_parts h).1
  have hlen := goodAll_len hm.1
  have hc := goodK_end h k
  have hlc : (calledL L (endC L b q k)).length = L.length := by unfold calledL; rw [List.length_set]
  unfold goodM goodAll
  rw [hm.2, Bool.and_true, hlc, decide_eq_true hlen.1, decide_eq_true hlen.2]
  simp only [Bool.true_and]
  rw [List.all_eq_true]
  intro l hl
  rw [calledL_eq hlen.1] at hl
  rcases List.mem_append.1 hl with h1 | h1
  · exact goodAll_mem hm.1 l (List.mem_of_mem_take h1)
  · rw [List.mem_singleton] at h1
    rw [h1, txt_lets]
    exact hc
theorem head_called {n : Nat} {L : List (List Nat)} {b q : ByteArray} (h : 1 ≤ L.length) (k : Nat) : headF n (chR n (calledL L (endC L b q k))) = hdK n L b q k := by
  rw [calledL_eq h]
  have e : chR n (L.take (L.length - 1) ++ [lets (endC L b q k)]) = chR n (L.take (L.length - 1)) ++ [chF n (endC L b q k)] := by
    simp [chR, txt_lets]
  rw [e]
  unfold headF
  rw [endF_app]
  rfl
theorem movd_rdf (n : Nat) : movd n (rdf n) = [] := by
  unfold movd
  rw [List.filter_eq_nil_iff.2 ?_]
  · rfl
  · intro i hi
    rw [List.mem_range] at hi
    simp [rdf, hi]
/-- what the answers are to one another -/
structure CallsOk (s : ByteArray) (n : Int) (L : List (List Nat)) (r sp : ByteArray) (np : Int) (P : List (List Nat)) (th tr : ByteArray) (o : Int) (xs : List Nat) : Prop where
  cast : ∃ k : Nat, n = k ∧ 3 ≤ k ∧ k ≤ 8
  lead : ∀ u w, Txts w u P → Calls Try.prog 31 #[.agg #[.string sp, .int .i64 np, u]] w fun e w' => e = .returned (.tuple #[.string th, .bool true]) ∧ Below w.heap.size w w'
  plain : ∃ tp, (∀ u w, Txts w u L → Calls Try.prog 31 #[.agg #[.string s, .int .i64 n, u]] w fun e w' => e = .returned (.tuple #[.string tp, .bool true]) ∧ Below w.heap.size w w') ∧
    (∀ w, Calls Try.prog 32 #[.string tp, .string tr] w fun e w' => e = .returned (.tuple #[.string th, .bool true]) ∧ Below w.heap.size w w')
  back : ∃ tn, (∀ w, Calls Try.prog 33 #[.int .i64 n] w fun e w' => e = .returned (.tuple #[.string tn, .bool true]) ∧ w = w') ∧
    (∀ w, Calls Try.prog 34 #[.string tr, .int .i64 o] w fun e w' => e = .returned (.tuple #[.string tn, .bool true]) ∧ Below w.heap.size w w')
  still : r = ⟨#[112]⟩ → xs = []
set_option maxRecDepth 100000 in
set_option maxHeartbeats 1000000 in
set_option maxHeartbeats 4000000 in
theorem callsFacts (s : ByteArray) (hs : s.size ≤ maxLen) (n : Int) (L : List (List Nat)) (hl : L.length ≤ 2000000) (hsm : Small L) (b q : ByteArray) (hb : b.size ≤ 10) (hq : q.size ≤ 10) (r : ByteArray) :
    ∃ (sp : ByteArray) (np : Int) (P : List (List Nat)) (th tr : ByteArray) (o : Int) (xs : List Nat) (fl : Bool), P.length ≤ 1000 ∧ xs.length ≤ 1000 ∧
      (∀ u w, Txts w u L → Calls Try.prog 17 #[.agg #[.string s, .int .i64 n, u], .agg #[.string b, .string q], .string r] w (MethK sp np P fl w)) ∧
      (∀ u w, Txts w u L → Calls Try.prog 18 #[.agg #[.string s, .int .i64 n, u], .agg #[.string b, .string q], .string r] w (MethK sp np P fl w)) ∧
      (∀ u w, Txts w u L → Calls Try.prog 19 #[.agg #[.string s, .int .i64 n, u], .agg #[.string b, .string q], .string r] w fun e w' => e = .returned (.tuple #[.string th, .bool fl]) ∧ Below w.heap.size w w') ∧
      (∀ u w, Txts w u L → Calls Try.prog 20 #[.agg #[.string s, .int .i64 n, u], .agg #[.string b, .string q], .string r] w fun e w' => e = .returned (.tuple #[.string th, .bool fl]) ∧ Below w.heap.size w w') ∧
      (∀ u w, Txts w u L → Calls Try.prog 21 #[.agg #[.string s, .int .i64 n, u], .agg #[.string b, .string q], .string r] w fun e w' => e = .returned (.tuple #[.string tr, .bool fl]) ∧ Below w.heap.size w w') ∧
      (∀ u w, Txts w u L → Calls Try.prog 22 #[.agg #[.string s, .int .i64 n, u], .agg #[.string b, .string q], .string r] w fun e w' => e = .returned (.tuple #[.string tr, .bool fl]) ∧ Below w.heap.size w w') ∧
      (∀ u w, Txts w u L → Calls Try.prog 23 #[.agg #[.string s, .int .i64 n, u], .agg #[.string b, .string q], .string r] w fun e w' => e = .returned (.tuple #[.int .i64 o, .bool fl]) ∧ Below w.heap.size w w') ∧
      (∀ u w, Txts w u L → Calls Try.prog 24 #[.agg #[.string s, .int .i64 n, u], .agg #[.string b, .string q], .string r] w fun e w' => e = .returned (.tuple #[.int .i64 o, .bool fl]) ∧ Below w.heap.size w w') ∧
      (∀ u w, Txts w u L → Calls Try.prog 25 #[.agg #[.string s, .int .i64 n, u], .agg #[.string b, .string q], .string r] w (NumsAny xs fl w)) ∧
      (∀ u w, Txts w u L → Calls Try.prog 26 #[.agg #[.string s, .int .i64 n, u], .agg #[.string b, .string q], .string r] w (NumsAny xs fl w)) ∧
      (fl = true → CallsOk s n L r sp np P th tr o xs) := by
  have hb2 : b.size ≤ maxLen := by unfold maxLen; omega
  have hq2 : q.size ≤ maxLen := by unfold maxLen; omega
  cases hk : askK s n L b q r
  · exact ⟨⟨#[]⟩, 0, [], ⟨#[]⟩, ⟨#[]⟩, 0, [], false, by simp, by simp,
      fun u w h => iCalledLead_no s hs n u L b q r w h hl hk, fun u w h => sCalledLead_no s hs n u L b q r hb2 hq2 w h hl hsm hk,
      fun u w h => iCallHead_no s hs n u L b q r w h hl hk, fun u w h => sCallHead_no s hs n u L b q r hb2 hq2 w h hl hsm hk,
      fun u w h => iCallRow_no s hs n u L b q r w h hl hk, fun u w h => sCallRow_no s hs n u L b q r hb2 hq2 w h hl hsm hk,
      fun u w h => iCallOrder_no s hs n u L b q r w h hl hk, fun u w h => sCallOrder_no s hs n u L b q r hb2 hq2 w h hl hsm hk,
      fun u w h => iMovedBells_no s hs n u L b q r w h hl hk, fun u w h => sMovedBells_no s hs n u L b q r hb2 hq2 w h hl hsm hk, fun h => by cases h⟩
  · unfold askK at hk
    rw [Bool.and_eq_true] at hk
    obtain ⟨hg, hr⟩ := hk
    obtain ⟨k, rfl⟩ := goodK_cast hg
    have hm := goodM_parts (goodK_parts hg).1
    have hlen := goodAll_len hm.1
    have hran := goodAll_range hm.1
    have he := isRow_efK hg (kN r)
    have hh := isRow_hdK hg (kN r)
    have h0 := isRow_hdK hg 0
    obtain ⟨o, ho⟩ := ord_exists he
    have hlc : (calledL L (endC L b q (kN r))).length = L.length := by unfold calledL; rw [List.length_set]
    have hsmC : Small (calledL L (endC L b q (kN r))) := by
      intro l hl9
      rw [calledL_eq hlen.1] at hl9
      rcases List.mem_append.1 hl9 with h1 | h1
      · exact hsm l (List.mem_of_mem_take h1)
      · rw [List.mem_singleton] at h1
        have h2 := goodC_len (l := lets (endC L b q (kN r))) (n := (k : Int)) (by rw [txt_lets]; exact goodK_end hg (kN r))
        rw [h1]
        unfold maxLen
        omega
    have hmul : mulR k (hdK k L b q 0) (efK k L b q (kN r)) = hdK k L b q (kN r) := by
      unfold efK
      rw [← mulR_assoc h0 (isRow_inv h0) hh, mul_inv h0, rounds_mul hh]
    refine ⟨s, (k : Int), calledL L (endC L b q (kN r)), strOf k (hdK k L b q (kN r)), strOf k (efK k L b q (kN r)), (o : Int), movd k (efK k L b q (kN r)), true, by omega, by have := movd_len k (efK k L b q (kN r)); have := he.eight; omega,
      fun u w h => iCalledLead_yes s hs k u L b q r w h hl hg hr, fun u w h => sCalledLead_yes s hs k u L b q r hb2 hq2 w h hl hsm hg hr,
      fun u w h => iCallHead_yes s hs k u L b q r w h hl hg hr, fun u w h => sCallHead_yes s hs k u L b q r hb2 hq2 w h hl hsm hg hr,
      fun u w h => iCallRow_yes s hs k u L b q r w h hl hg hr, fun u w h => sCallRow_yes s hs k u L b q r hb2 hq2 w h hl hsm hg hr,
      fun u w h => iCallOrder_yes s hs k u L b q r w h hl hg hr o ho, fun u w h => sCallOrder_yes s hs k u L b q r hb2 hq2 w h hl hsm hg hr o ho,
      fun u w h => iMovedBells_yes s hs k u L b q r w h hl hg hr, fun u w h => sMovedBells_yes s hs k u L b q r hb2 hq2 w h hl hsm hg hr, fun _ => ?_⟩
    refine ⟨⟨k, rfl, by omega, by omega⟩, fun u w h => ?_, ⟨strOf k (hdK k L b q 0), fun u w h => ?_, fun w => ?_⟩, ⟨rnds k, fun w => sRoundsOf_yes k (by omega) (by omega) w, fun w => ?_⟩, fun hp => ?_⟩
    · have := sLeadHead_yes s hs k u _ w h (by omega) hsmC (good_called hg (kN r))
      rwa [head_called hlen.1] at this
    · have := sLeadHead_yes s hs k u L w h hl hsm (goodK_parts hg).1
      rwa [← hdK_zero b q hlen.1] at this
    · have := times_two h0 he w
      rwa [hmul] at this
    · have := power_back he ho w
      rwa [strOf_rdf] at this
    · subst hp
      have e1 : efK k L b q (kN ⟨#[112]⟩) = rdf k := by
        show mulR k (invF k (hdK k L b q 0)) (hdK k L b q 0) = rdf k
        exact inv_mul h0
      rw [e1, movd_rdf]
end Go.Proofs.Ytkhglknpcajmiaa
