/- Lists of texts that came in: measured, copied. A copy of a list of texts that came in. -/
import Derived.Test.YtkhglknpcajmiaaK4
import Derived.Test.YtkhglknpcajmiaaS1
import Derived.OwnWalk
namespace Go.Proofs.Ytkhglknpcajmiaa
open Go.RowKit
set_option linter.unusedSimpArgs false

theorem add_block (ad : Addr) (j : Nat) : (ad.add j).block = ad.block := by
  unfold Addr.add
  split <;> rfl
/-- v reads as these texts, wherever they lie -/
def Arg (W : World) (v : Value) (ss : List ByteArray) : Prop :=
  ∃ a cap, v = .slice a ss.length cap ∧ (0 < ss.length → ∃ ad : Addr, a = some ad ∧ ad.block < W.heap.size ∧ ∀ j, j < ss.length → W.cell? (ad.add j) = some (.string (ss.getD j ByteArray.empty)))
theorem Arg.kept {W W' : World} {v : Value} {ss : List ByteArray} (h : Arg W v ss) (hb : Below W.heap.size W W') : Arg W' v ss := by
  obtain ⟨a, cap, rfl, ha⟩ := h
  refine ⟨a, cap, rfl, fun h0 => ?_⟩
  obtain ⟨ad, rfl, hlt, hc⟩ := ha h0
  refine ⟨ad, rfl, Nat.lt_of_lt_of_le hlt hb.size, fun j hj => ?_⟩
  rw [hb.cell (by rw [add_block]; exact hlt)]
  exact hc j hj

/-- what is left of a measure behind these texts -/
def szRest : List ByteArray → Int → Int
  | [], left => left
  | s :: t, left => if left - s.size < 0 then -1 else szRest t (left - s.size)
def szAll (ss : List ByteArray) (left : Int) : Int := if left - ss.length < 0 then -1 else szRest ss (left - ss.length)
theorem szRest_le : ∀ (ss : List ByteArray) (left : Int), 0 ≤ szRest ss left → ∀ s ∈ ss, (s.size : Int) ≤ left
  | [], _, _, s, hs => by simp at hs
  | s :: t, left, h, x, hx => by
    unfold szRest at h
    split at h
    · omega
    · rcases List.mem_cons.1 hx with rfl | q
      · omega
      · have := szRest_le t _ h x q
        omega
theorem szAll_len {ss : List ByteArray} {left : Int} (h : 0 ≤ szAll ss left) : (ss.length : Int) ≤ left := by
  unfold szAll at h
  split at h <;> omega
theorem szAll_le {ss : List ByteArray} {left : Int} (h : 0 ≤ szAll ss left) : ∀ s ∈ ss, (s.size : Int) ≤ left := by
  unfold szAll at h
  split at h
  · omega
  · intro s hs
    have := szRest_le _ _ h s hs
    omega

set_option maxRecDepth 100000 in
set_option maxHeartbeats 1000000 in
theorem szStringS_any (v : Value) (ss : List ByteArray) (w : World) (h : Arg w v ss) (hl : ss.length ≤ maxLen) (hs : ∀ s ∈ ss, s.size ≤ maxLen) (left : Int) (h0 : 0 ≤ left) (h1 : left ≤ 1048576) :
    Calls Try.prog 130 #[v, .int .i64 left] w fun e w' => e = .returned (.int .i64 (szAll ss left)) ∧ w = w' := by
  obtain ⟨n, hn⟩ : ∃ n, ss.length = n := ⟨_, rfl⟩
  obtain ⟨a, cap, rfl, ha⟩ := h
  unfold szAll
  rw [hn] at ha hl ⊢
  have hl' : (n : Int) ≤ 9223372036854775807 := by simp only [maxLen] at hl; omega
  have HA := Lib.hid ha
  have HN := Lib.hid hn
  have HS := Lib.hid hs
  clear ha hn hs hl
  by_cases hbig : left - n < 0
  · rw [if_pos hbig]
    go_enter Try.func130, Try.ntmps130
    go_wp2
    go_ret
    exact ⟨rfl, rfl⟩
  · rw [if_neg hbig]
    generalize hres : szRest ss (left - n) = res
    have HRES := Lib.hid hres
    clear hres
    go_enter Try.func130, Try.ntmps130
    go_wp2
    go_loopg [1, 5] n (fun q lf i wr => ∃ (j : Nat) (x : Int), j ≤ n ∧ q + j = n ∧ i = .int .i64 j ∧ lf = .int .i64 x ∧ 0 ≤ x ∧ x ≤ 1048576 ∧ szRest (ss.drop j) x = res ∧ w = wr)
    case atStart => exact ⟨0, left - n, Nat.zero_le _, rfl, rfl, by go_num, by omega, by omega, HRES.out, rfl⟩
    case round =>
      clear HRES
      obtain ⟨j, x, hj, hq, rfl, rfl, hx0, hx1, hr, rfl⟩ := hrel
      have HQ := Lib.hid hq
      have HR := Lib.hid hr
      clear hq hr
      by_cases hlt : j < n
      · obtain ⟨ad, rfl, _, hc⟩ := HA.out (by omega)
        have c1 := hc j hlt
        have hjx : j < ss.length := by rw [HN.out]; exact hlt
        have hji : (j : Int) < n := by omega
        have hr := HR.out
        have hsz := HS.out _ (List.getElem_mem hjx)
        rw [List.drop_eq_getElem_cons hjx] at hr
        rw [List.getD_eq_getElem?_getD, List.getElem?_eq_getElem hjx, Option.getD_some] at c1
        generalize ss[j] = s at *
        have hsz' : (s.size : Int) ≤ 9223372036854775807 := by simp only [maxLen] at hsz; omega
        unfold szRest at hr
        clear hc hsz HR
        by_cases hneg : x - s.size < 0
        · rw [if_pos hneg] at hr
          have HR := Lib.hid hr
          clear hr
          go_wp2
          go_ret
          exact ⟨by rw [← HR.out]; rfl, rfl⟩
        · rw [if_neg hneg] at hr
          have HR := Lib.hid hr
          clear hr
          go_wp2
          go_roundg (n - (j + 1))
          case measure => have := HQ.out; omega
          case rel => exact ⟨j + 1, x - s.size, by omega, by have := HQ.out; omega, by go_num, by go_num, by omega, by omega, HR.out, rfl⟩
      · obtain rfl : j = n := by omega
        have hr := HR.out
        rw [List.drop_eq_nil_of_le (by rw [HN.out]; exact Nat.le_refl _)] at hr
        have HR2 := Lib.hid (show x = res from hr)
        clear hr
        go_wp2
        go_ret
        exact ⟨by rw [HR2.out]; rfl, rfl⟩
end Go.Proofs.Ytkhglknpcajmiaa
namespace Go.Proofs.Ytkhglknpcajmiaa
open Go.RowKit
set_option linter.unusedSimpArgs false

/-- the texts as letters -/
def letss (ss : List ByteArray) : List (List Nat) := ss.map lets
theorem letss_len (ss : List ByteArray) : (letss ss).length = ss.length := by simp [letss]
theorem strs_letss (ss : List ByteArray) : strs (letss ss) = ss.map Value.string := by
  simp only [strs, letss, List.map_map]
  exact List.map_congr_left fun s _ => by simp [txt_lets]
/-- the first j texts, empty texts behind them -/
def someOf (ss : List ByteArray) (j : Nat) : List Value := (ss.take j).map Value.string ++ List.replicate (ss.length - j) (.string ⟨#[]⟩)
theorem someOf_len (ss : List ByteArray) (j : Nat) (hj : j ≤ ss.length) : (someOf ss j).length = ss.length := by simp [someOf]; omega
theorem someOf_zero (ss : List ByteArray) : someOf ss 0 = List.replicate ss.length (.string ⟨#[]⟩) := by simp [someOf]
theorem someOf_all (ss : List ByteArray) : someOf ss ss.length = ss.map Value.string := by simp [someOf]
theorem someOf_set (ss : List ByteArray) (j : Nat) (hj : j < ss.length) : (someOf ss j).set j (.string ss[j]) = someOf ss (j + 1) := by
  unfold someOf
  rw [List.set_append_right _ _ (by simp; omega)]
  rw [List.take_succ_eq_append_getElem hj, List.map_append, List.append_assoc]
  congr 1
  have e : ss.length - j = (ss.length - (j + 1)) + 1 := by omega
  rw [e, List.replicate_succ]
  have e2 : j - ((ss.take j).map Value.string).length = 0 := by simp; omega
  rw [e2]
  simp

set_option maxRecDepth 100000 in
set_option maxHeartbeats 1000000 in
theorem toStringS_any (v : Value) (ss : List ByteArray) (w : World) (h : Arg w v ss) (hl : ss.length ≤ 2000000) :
    Calls Try.prog 131 #[v] w fun e w' => ∃ v', e = .returned v' ∧ New w.heap.size w' 9 v' (strs (letss ss)) ∧ Below w.heap.size w w' := by
  obtain ⟨n, hn⟩ : ∃ n, ss.length = n := ⟨_, rfl⟩
  obtain ⟨a, cap, rfl, ha⟩ := h
  have hz := someOf_zero ss
  rw [hn] at ha hl hz ⊢
  have hl' : (n : Int) ≤ 2000000 := by omega
  have HA := Lib.hid ha
  have HN := Lib.hid hn
  have HZ := Lib.hid hz
  obtain ⟨i0, hi0, hz0, hz1, hz2⟩ := info_parts infoText
  have I0 := Lib.hid (⟨hi0, hz0, hz1, hz2⟩ : _ ∧ _ ∧ _ ∧ _)
  clear ha hn hz hi0 hz0 hz1 hz2
  go_enter Try.func131, Try.ntmps131
  go_wp2_with (first | (at_make; refine wpList_make_full _ rfl _ _ 23 rfl w.heap.size 9 i0 (.string ⟨#[]⟩) 1 Try.underlying23 I0.out.1 I0.out.2.1 I0.out.2.2.1 .i64 .i64 _ _ n rfl rfl rfl rfl (by rw [I0.out.2.2.2]; omega) (by unfold maxLen; omega) (Nat.le_refl _) ?_) | fail)
  intro w1 hown hgrow
  have hb1 : Below w.heap.size w w1 := (Below.refl _ w).grown hgrow (Nat.le_refl _) (fun k hk => by cases hk)
  have hown1 : Own w1 9 (.slice (some ⟨w.heap.size, 0, none⟩) n n) (someOf ss 0) := by
    rw [HZ.out]
    rw [toList_madeCells_one] at hown
    unfold Own
    rw [List.length_replicate]
    obtain ⟨q1, q2⟩ := hown
    refine ⟨q1, ?_⟩
    rcases q2 with q2 | ⟨g, cap2, cur, q3, q4, q5⟩
    · exact .inl q2
    · exact .inr ⟨g, cap2, cur, q3, Nat.zero_le _, q5⟩
  have HO := Lib.hid hown1
  have HB := Lib.hid hb1
  clear hown hgrow hown1 hb1
  go_wp2
  go_loopg [4] n (fun q i wr => ∃ j : Nat, j ≤ n ∧ q + j = n ∧ i = .int .i64 j ∧ Own wr 9 (.slice (some ⟨w.heap.size, 0, none⟩) n n) (someOf ss j) ∧ Below w.heap.size w wr)
  case atStart => exact ⟨0, Nat.zero_le _, rfl, rfl, HO.out, HB.out⟩
  case round =>
    clear HO HB
    obtain ⟨j, hj, hq, rfl, ho, hb⟩ := hrel
    have HQ := Lib.hid hq
    have HO := Lib.hid ho
    have HB := Lib.hid hb
    clear hq ho hb
    by_cases hlt : j < n
    · obtain ⟨ad, rfl, had, hc⟩ := HA.out (by omega)
      have hjx : j < ss.length := by rw [HN.out]; exact hlt
      have c1 : wr.cell? (ad.add j) = some (.string (ss.getD j ByteArray.empty)) := by
        rw [HB.out.cell (by rw [add_block]; exact had)]
        exact hc j hlt
      rw [List.getD_eq_getElem?_getD, List.getElem?_eq_getElem hjx, Option.getD_some] at c1
      have hset := HO.out.set j (.string ss[j])
      rw [someOf_set ss j hjx] at hset
      have HSET := Lib.hid hset
      obtain ⟨u, hu⟩ : ∃ u, (someOf ss j)[j]? = some u := ⟨_, List.getElem?_eq_getElem (by rw [someOf_len ss j (by omega), HN.out]; exact hlt)⟩
      have c2 := HO.out.cell j u hu
      have f2 := HO.out.free j
      have hji : (j : Int) < n := by omega
      generalize ss[j] = s at *
      clear hc hset hu
      go_wp2
      go_roundg (n - (j + 1))
      case measure => have := HQ.out; omega
      case rel => exact ⟨j + 1, by omega, by have := HQ.out; omega, by go_num, HSET.out, HB.out.setCell (Nat.le_refl _) _⟩
    · obtain rfl : j = n := by omega
      have hfin := HO.out
      rw [← HN.out, someOf_all, HN.out, ← strs_letss] at hfin
      have HF := Lib.hid hfin
      clear hfin
      go_wp2
      go_ret
      exact ⟨_, rfl, ⟨HF.out, fun g hg => by simp [Value.ownBlock] at hg; omega⟩, HB.out⟩
end Go.Proofs.Ytkhglknpcajmiaa
