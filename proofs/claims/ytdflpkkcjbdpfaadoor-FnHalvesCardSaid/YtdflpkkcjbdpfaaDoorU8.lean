/- ReadNotation and CountChanges in the program. -/
import Derived.Test.YtdflpkkcjbdpfaaDoorU7
import Derived.Test.YtdflpkkcjbdpfaaDoorR4
import Derived.Test.YtdflpkkcjbdpfaaDoorR3
namespace Go.Proofs.YtdflpkkcjbdpfaaDoor
open Go.RowKit
set_option linter.unusedSimpArgs false

theorem results_tmp4 {fn : Func} {t u v x : Tmp} (h : fn.results = #[.tmp t, .tmp u, .tmp v, .tmp x]) (tmps : Array Value) (P : Program) (w : World) :
    (results fn tmps).run P w = .ok (.tuple #[tmps.getD t undef, tmps.getD u undef, tmps.getD v undef, tmps.getD x undef]) w := by
  simp [results, h]
structure Read where
  list : List (List Nat)
  code : Nat
  at_ : Nat
  ok : Bool
/-- what the text reads as -/
def readP (n : Int) (s : ByteArray) : Read :=
  if 3 ≤ n ∧ n ≤ 8 then
    if s.size = 0 ∨ 200 < s.size then ⟨[], 1, 0, false⟩
    else match blocksP n.toNat (lets s) with
      | .error q => ⟨[], 2, q, false⟩
      | .ok bs => if joinOk bs = true then ⟨joinP bs, 0, 0, true⟩ else ⟨[], 3, 0, false⟩
  else ⟨[], 0, 0, false⟩
def ReadRes (r : Read) (w : World) (e : Ending) (w' : World) : Prop :=
  ∃ v, e = .returned (.tuple #[v, .int .i64 r.code, .int .i64 r.at_, .bool r.ok]) ∧ New w.heap.size w' 9 v (strs r.list) ∧ Below w.heap.size w w'
theorem readP_out {n : Int} {s : ByteArray} (h : ¬ (3 ≤ n ∧ n ≤ 8)) : readP n s = ⟨[], 0, 0, false⟩ := by unfold readP; rw [if_neg h]
theorem readP_len {n : Int} {s : ByteArray} (h : 3 ≤ n ∧ n ≤ 8) (hl : s.size = 0 ∨ 200 < s.size) : readP n s = ⟨[], 1, 0, false⟩ := by unfold readP; rw [if_pos h, if_pos hl]
theorem readP_bad {n : Int} {s : ByteArray} {q : Nat} (h : 3 ≤ n ∧ n ≤ 8) (hl : ¬ (s.size = 0 ∨ 200 < s.size)) (hb : blocksP n.toNat (lets s) = .error q) : readP n s = ⟨[], 2, q, false⟩ := by unfold readP; rw [if_pos h, if_neg hl, hb]
theorem readP_many {n : Int} {s : ByteArray} {bs : List (List (List Nat))} (h : 3 ≤ n ∧ n ≤ 8) (hl : ¬ (s.size = 0 ∨ 200 < s.size)) (hb : blocksP n.toNat (lets s) = .ok bs) (hj : joinOk bs = false) : readP n s = ⟨[], 3, 0, false⟩ := by unfold readP; rw [if_pos h, if_neg hl, hb]; simp [hj]
theorem readP_ok {n : Int} {s : ByteArray} {bs : List (List (List Nat))} (h : 3 ≤ n ∧ n ≤ 8) (hl : ¬ (s.size = 0 ∨ 200 < s.size)) (hb : blocksP n.toNat (lets s) = .ok bs) (hj : joinOk bs = true) : readP n s = ⟨joinP bs, 0, 0, true⟩ := by unfold readP; rw [if_pos h, if_neg hl, hb]; simp [hj]

set_option maxRecDepth 100000 in
set_option maxHeartbeats 1000000 in
theorem iReadNotation_any (n : Int) (s : ByteArray) (w : World) (hsz : s.size ≤ maxLen) :
    Calls Tryd.prog 25 #[.int .i64 n, .string s] w (ReadRes (readP n s) w) := by
  unfold maxLen at hsz
  by_cases hn : 3 ≤ n ∧ n ≤ 8
  · obtain ⟨k, rfl⟩ : ∃ k : Nat, n = k := ⟨n.toNat, by omega⟩
    have hin : (decide ((3 : Int) ≤ k) && decide ((k : Int) ≤ 8)) = true := by simp; omega
    have HIN := Lib.hid hin
    have hemp : s.toList.isEmpty = decide (s.size = 0) := by
      rw [empty_lets]
      have := lets_len s
      rw [Bool.eq_iff_iff, decide_eq_true_eq, decide_eq_true_eq, ← this]
      exact List.length_eq_zero_iff.symm
    by_cases hl : s.size = 0 ∨ 200 < s.size
    · rw [readP_len hn hl]
      have hcond : (s.toList.isEmpty || decide ((200 : Int) < s.size)) = true := by
        rw [hemp, Bool.or_eq_true, decide_eq_true_eq, decide_eq_true_eq]
        omega
      by_cases h0 : s.size = 0
      · have h1 : s.toList.isEmpty = true := by rw [hemp, decide_eq_true h0]
        clear hin hemp hl hn hcond h0
        go_enter Tryd.func25, Tryd.ntmps25
        go_wp2_with fail
        refine (goodStage_any _ _).mono ?_
        rintro e w1 ⟨rfl, rfl⟩
        rw [HIN.out]
        go_wp2
        (try simp only [Exit.inBlock, Exit.then]); refine bodyPost_ret (results_tmp4 rfl _ _ _) rfl ?_
        exact ⟨_, rfl, New.nil _ _ _, Below.refl _ _⟩
      · have h1 : s.toList.isEmpty = false := by rw [hemp, decide_eq_false h0]
        have h2 : (200 : Int) < s.size := by omega
        clear hin hemp hl hn hcond h0
        go_enter Tryd.func25, Tryd.ntmps25
        go_wp2_with fail
        refine (goodStage_any _ _).mono ?_
        rintro e w1 ⟨rfl, rfl⟩
        rw [HIN.out]
        go_wp2
        (try simp only [Exit.inBlock, Exit.then]); refine bodyPost_ret (results_tmp4 rfl _ _ _) rfl ?_
        exact ⟨_, rfl, New.nil _ _ _, Below.refl _ _⟩
    · have h1 : s.toList.isEmpty = false := by rw [hemp, decide_eq_false (fun h0 => hl (.inl h0))]
      have h2 : (s.size : Int) ≤ 200 := by omega
      have h3 : decide ((200 : Int) < s.size) = false := by rw [decide_eq_false_iff_not]; omega
      have HRB := Lib.hid (fun W => readBlocks_in k (by omega) (by omega) s W (by omega))
      have hbad := fun q => readP_bad (q := q) hn hl
      have hmany := fun bs => readP_many (bs := bs) hn hl
      have hok := fun bs => readP_ok (bs := bs) hn hl
      rw [show ((k : Int)).toNat = k by simp] at hbad hmany hok
      have HBAD := Lib.hid hbad
      have HMANY := Lib.hid hmany
      have HOK := Lib.hid hok
      have HBL := Lib.hid (fun bs => blocksP_len (n := k) (L := lets s) (bs := bs))
      have HSL := Lib.hid (lets_len s)
      clear hin hemp hl hn hbad hmany hok
      go_enter Tryd.func25, Tryd.ntmps25
      go_wp2_with fail
      refine (goodStage_any _ _).mono ?_
      rintro e w1 ⟨rfl, rfl⟩
      rw [HIN.out]
      go_wp2_with fail
      refine (HRB.out _).mono ?_
      rintro e w2 ⟨hb2, hres⟩
      cases hbp : blocksP k (lets s) with
      | error q =>
        rw [hbp] at hres
        have HR := Lib.hid (HBAD.out q hbp)
        subst hres
        clear hbp
        go_wp2
        (try simp only [Exit.inBlock, Exit.then]); refine bodyPost_ret (results_tmp4 rfl _ _ _) rfl ?_
        rw [HR.out]
        exact ⟨_, rfl, New.nil _ _ _, hb2⟩
      | ok bs =>
        rw [hbp] at hres
        obtain ⟨v, vs, rfl, hls⟩ := hres
        obtain ⟨l1, l2, l3⟩ := HBL.out bs hbp
        rw [HSL.out] at l2
        have HJ := Lib.hid (fun (W : World) (hW : LS w.heap.size W v vs bs) => joinBlocks_any v vs bs w.heap.size W hW)
        have HLS := Lib.hid hls
        have HB2 := Lib.hid hb2
        have HL : Hid ((1 ≤ bs.length ∧ bs.length ≤ 1000) ∧ (∀ b ∈ bs, b ≠ []) ∧ ∀ b ∈ bs, b.length ≤ 1000) := Lib.hid ⟨by omega, fun b hb => (l3 b hb).1, fun b hb => by have := (l3 b hb).2.1; rw [HSL.out] at this; omega⟩
        have HM1 := Lib.hid (HMANY.out bs hbp)
        have HO1 := Lib.hid (HOK.out bs hbp)
        clear hls hb2 hbp l1 l2 l3
        go_wp2_with fail
        refine (HJ.out _ HLS.out HB2.out.size HL.out.1 HL.out.2.1 HL.out.2.2).mono ?_
        rintro e w3 ⟨v3, rfl, hn3, hb3⟩
        have HB3 := Lib.hid (HB2.out.trans (hb3.mono HB2.out.size))
        cases hj : joinOk bs
        · have HR := Lib.hid (HM1.out hj)
          clear hj hn3 hb3
          go_wp2
          (try simp only [Exit.inBlock, Exit.then]); refine bodyPost_ret (results_tmp4 rfl _ _ _) rfl ?_
          rw [HR.out]
          exact ⟨_, rfl, New.nil _ _ _, HB3.out⟩
        · have HR := Lib.hid (HO1.out hj)
          have HN3 := Lib.hid (hn3 hj)
          clear hj hn3 hb3
          go_wp2
          (try simp only [Exit.inBlock, Exit.then]); refine bodyPost_ret (results_tmp4 rfl _ _ _) rfl ?_
          rw [HR.out]
          exact ⟨_, rfl, HN3.out, HB3.out⟩
  · rw [readP_out hn]
    have hin : (decide ((3 : Int) ≤ n) && decide (n ≤ 8)) = false := by simp; omega
    clear hn
    go_enter Tryd.func25, Tryd.ntmps25
    go_wp2_with fail
    refine (goodStage_any _ _).mono ?_
    rintro e w1 ⟨rfl, rfl⟩
    rw [hin]
    go_wp2
    (try simp only [Exit.inBlock, Exit.then]); refine bodyPost_ret (results_tmp4 rfl _ _ _) rfl ?_
    exact ⟨_, rfl, New.nil _ _ _, Below.refl _ _⟩
end Go.Proofs.YtdflpkkcjbdpfaaDoor
