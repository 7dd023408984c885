/- What the laws do with lists of texts: marks as texts, compare, mark, ask whether the marks stand. -/
import Derived.Test.YtpnagaokmfaaiaaB18
namespace Go.Proofs.Ytpnagaokmfaaiaa
open Go.RowKit

/-- the digits of a number in front of some letters -/
def dgs : Nat → Nat → List Nat → List Nat
  | 0, _, acc => acc
  | f + 1, k, acc => if k = 0 then acc else dgs f (k / 10) ((48 + k % 10) :: acc)
theorem dgs_end (f : Nat) (acc : List Nat) : dgs f 0 acc = acc := by cases f <;> simp [dgs]
/-- the mark of number k -/
def smark (k : Nat) : List Nat := 109 :: dgs k k []

set_option maxRecDepth 100000 in
set_option maxHeartbeats 1000000 in
theorem markText_any (k : Nat) (h1 : 1 ≤ k) (h2 : k ≤ 3000000) (w : World) :
    Calls Try.prog 26 #[.int .i64 k] w fun e w' => e = .returned (.string (txt (smark k))) ∧ Below w.heap.size w w' := by
  have h1' : ¬ (k : Int) ≤ 0 := by omega
  have hpre : txt (smark k) = txt [109] ++ txt (dgs k k []) := by rw [← txt_app]; rfl
  have hp1 : (txt [109]).size = 1 := txt_size _
  rw [hpre]
  clear hpre
  generalize hres : dgs k k [] = res
  have HRES := Lib.hid hres
  clear hres
  go_enter Try.func26, Try.ntmps26
  go_wp2
  go_loopg [0, 3] k (fun q kk o wr => ∃ (x : Nat) (acc : List Nat), x ≤ q ∧ kk = .int .i64 x ∧ o = .string (txt acc) ∧ acc.length + q = k ∧ dgs q x acc = res ∧ Below w.heap.size w wr)
  case atStart => exact ⟨k, [], Nat.le_refl _, rfl, rfl, by simp, HRES.out, Below.refl _ _⟩
  case round =>
    clear HRES
    obtain ⟨x, acc, hxq, rfl, rfl, hal, hd, hbel⟩ := hrel
    have HD := Lib.hid hd
    have HB := Lib.hid hbel
    have hsz : (txt acc).size = acc.length := txt_size _
    clear hd hbel
    by_cases hx : x = 0
    · subst hx
      have hd := HD.out
      rw [dgs_end] at hd
      have HD2 := Lib.hid hd
      have hal' : (txt acc).size ≤ 3000000 := by omega
      have HT := Lib.hid (show txt acc = txt res by rw [HD2.out])
      generalize txt acc = T at *
      clear hsz
      go_wp2
      go_ret
      exact ⟨by rw [← HT.out]; rfl, HB.out⟩
    · obtain ⟨q, rfl⟩ : ∃ q, gk = q + 1 := ⟨gk - 1, by omega⟩
      have hd := HD.out
      unfold dgs at hd
      rw [if_neg hx] at hd
      have hxi : (0 : Int) < x := by omega
      have hm10 : ((x : Int) % 10) = ((x % 10 : Nat) : Int) := by omega
      have hd10 : ((x : Int) / 10) = ((x / 10 : Nat) : Int) := by omega
      have hxl : (x : Int) ≤ 3000000 := by omega
      have hlt10 : x % 10 < 10 := by omega
      have hle : x / 10 ≤ q := by omega
      have htx : txt [48 + x % 10] ++ txt acc = txt ((48 + x % 10) :: acc) := (txt_app _ _).symm
      have hs1 : (txt [48 + x % 10]).size = 1 := txt_size _
      have HD2 := Lib.hid hd
      generalize x % 10 = r at *
      generalize x / 10 = y at *
      have hconv := conv_dig (wr.alloc (.cells #[.int .u8 (48 + r)] 5)) wr.heap.size 1 1 (fun _ => 48 + r) (fun i hi => by
        obtain rfl : i = 0 := by omega
        exact (RowAt.new wr 5 #[.int .u8 (48 + r)]).cell 0 rfl)
      have e1 : strOf 1 (fun _ => 48 + r) = txt [48 + r] := by simp [strOf, txt, List.range_succ]
      rw [e1] at hconv
      clear hd HD e1 hx
      have hal' : (acc.length : Int) ≤ 3000000 := by omega
      go_wp2
      go_roundg q
      case measure => omega
      case rel => exact ⟨y, (48 + r) :: acc, hle, by go_num, rfl, by simp; omega, HD2.out, HB.out.alloc HB.out.size _⟩

/-- the marks from k on, n of them -/
def smarks (k n : Nat) : List (List Nat) := (List.range n).map fun j => smark (k + j)
theorem smarks_len (k n : Nat) : (smarks k n).length = n := by simp [smarks]
theorem smarks_at (k n j : Nat) (h : j < n) : (strs (smarks k n))[j]? = some (.string (txt (smark (k + j)))) := by simp [strs, smarks, h]
/-- the first j of xs marked -/
def smarkTo (k : Nat) (xs : List (List Nat)) (j : Nat) : List (List Nat) := smarks k j ++ xs.drop j
theorem smarkTo_len (k : Nat) (xs : List (List Nat)) (j : Nat) (h : j ≤ xs.length) : (smarkTo k xs j).length = xs.length := by simp [smarkTo, smarks_len]; omega
theorem smarkTo_succ (k : Nat) (xs : List (List Nat)) (j : Nat) (h : j < xs.length) : (smarkTo k xs j).set j (smark (k + j)) = smarkTo k xs (j + 1) := by
  have e : (List.drop j xs).set 0 (smark (k + j)) = smark (k + j) :: List.drop (j + 1) xs := by rw [List.drop_eq_getElem_cons h]; rfl
  unfold smarkTo
  rw [List.set_append_right _ _ (by rw [smarks_len]; exact Nat.le_refl _), smarks_len, Nat.sub_self, e]
  simp [smarks, List.range_succ]
theorem smarkTo_all (k : Nat) (xs : List (List Nat)) : smarkTo k xs xs.length = smarks k xs.length := by simp [smarkTo]

set_option maxRecDepth 100000 in
set_option maxHeartbeats 1000000 in
theorem eqStringS_same (v v' : Value) (xs : List (List Nat)) (w : World) (h : Own w 9 v (strs xs)) (h' : Own w 9 v' (strs xs)) (hb : xs.length ≤ 2000000) :
    Calls Try.prog 11 #[v, v'] w fun e w' => e = .returned (.bool true) ∧ ∃ m, w' = w.drewN m := by
  obtain ⟨n, hn⟩ : ∃ n, xs.length = n := ⟨_, rfl⟩
  obtain ⟨a, cap, rfl, ha⟩ := h.view
  obtain ⟨a', cap', rfl, ha'⟩ := h'.view
  rw [strs_len, hn] at h h' ha ha' ⊢
  rw [hn] at hb
  have HO := Lib.hid h
  have HO' := Lib.hid h'
  have HA := Lib.hid ha
  have HA' := Lib.hid ha'
  clear h h' ha ha'
  have HN := Lib.hid hn
  clear hn
  go_enter Try.func11, Try.ntmps11
  go_wp2
  go_loopg [5] n (fun q i wr => ∃ k : Nat, k ≤ n ∧ q + k = n ∧ i = .int .i64 k ∧ ∃ d, wr = w.drewN d)
  case atStart => exact ⟨0, Nat.zero_le _, rfl, rfl, 0, rfl⟩
  case round =>
    obtain ⟨k, hk, hq, rfl, d, rfl⟩ := hrel
    have HQ := Lib.hid hq
    clear hq
    by_cases hlt : k < n
    · obtain ⟨g, rfl⟩ := HA.out (by omega)
      obtain ⟨g', rfl⟩ := HA'.out (by omega)
      have hkx : k < xs.length := by rw [HN.out]; exact hlt
      have c1 := HO.out.cell k _ (strs_at xs k hkx)
      have c2 := HO'.out.cell k _ (strs_at xs k hkx)
      have hki : (k : Int) < n := by omega
      generalize txt (xs.getD k []) = x at c1 c2
      have hself : (x.toList == x.toList) = true := by simp
      go_wp2
      go_quiet (fail)
      go_wp2
      go_roundg (n - (k + 1))
      case measure => have := HQ.out; omega
      case rel => exact ⟨k + 1, by omega, by have := HQ.out; omega, by go_num, _, rfl⟩
    · obtain rfl : k = n := by omega
      go_wp2
      go_ret
      exact ⟨rfl, d, rfl⟩

set_option maxRecDepth 100000 in
set_option maxHeartbeats 1000000 in
theorem markStringS_full (B : Nat) (v : Value) (xs : List (List Nat)) (k : Nat) (w : World) (h : New B w 9 v (strs xs)) (hB : B ≤ w.heap.size) (hb : xs.length ≤ 2000000) (hk0 : 1 ≤ k) (hk1 : k ≤ 100) :
    Calls Try.prog 16 #[v, .int .i64 k] w fun e w' => e = .returned (.int .i64 (k + xs.length)) ∧ New B w' 9 v (strs (smarks k xs.length)) ∧ Below B w w' ∧ KeptBut w w' v := by
  obtain ⟨n, hn⟩ : ∃ n, xs.length = n := ⟨_, rfl⟩
  have hbase := h.base
  have hown := h.own
  obtain ⟨a, cap, rfl, ha⟩ := hown.view
  rw [strs_len, hn] at hown ha hbase ⊢
  rw [hn] at hb
  have HO := Lib.hid hown
  have HA := Lib.hid ha
  have HBASE := Lib.hid hbase
  clear h ha hown hbase
  have HN := Lib.hid hn
  clear hn
  go_enter Try.func16, Try.ntmps16
  go_wp2
  go_loopg [1, 5] n (fun q kk i wr => ∃ j : Nat, j ≤ n ∧ q + j = n ∧ i = .int .i64 j ∧ kk = .int .i64 ((k + j : Nat) : Int) ∧ Own wr 9 (.slice a n cap) (strs (smarkTo k xs j)) ∧ Below B w wr ∧ KeptBut w wr (.slice a n cap))
  case atStart => exact ⟨0, Nat.zero_le _, rfl, rfl, by simp, by simpa [smarkTo, smarks] using HO.out, Below.refl _ _, fun _ _ _ => rfl⟩
  case round =>
    obtain ⟨j, hj, hq, rfl, rfl, ho, hg, hkb⟩ := hrel
    have HKB := Lib.hid hkb
    have HQ := Lib.hid hq
    have HO2 := Lib.hid ho
    have HG := Lib.hid hg
    clear hq ho hg hkb
    by_cases hlt : j < n
    · obtain ⟨g, rfl⟩ := HA.out (by omega)
      have hjx : j < (smarkTo k xs j).length := by rw [smarkTo_len k xs j (by rw [HN.out]; exact hj), HN.out]; exact hlt
      have hki : (j : Int) < n := by omega
      have HT : Hid (∀ (x : Int) (W : World), x = ((k + j : Nat) : Int) → Calls Try.prog 26 #[.int .i64 x] W fun e w' => e = .returned (.string (txt (smark (k + j)))) ∧ Below W.heap.size W w') := Lib.hid (fun x W hx => by subst hx; exact markText_any (k + j) (by omega) (by omega) W)
      go_wp2_with fail
      refine (HT.out _ _ (by simp)).mono ?_
      rintro e w2 ⟨rfl, hb2⟩
      have hO3 := HO2.out.kept hb2
      have HG3 := Lib.hid (HG.out.trans (hb2.mono (Nat.le_trans hB HG.out.size)))
      have c1 := hO3.cell j _ (strs_at (smarkTo k xs j) j hjx)
      have f1 := hO3.free j
      have hset := hO3.set j (.string (txt (smark (k + j))))
      rw [strs_set, smarkTo_succ k xs j (by rw [HN.out]; exact hlt)] at hset
      have HSET := Lib.hid hset
      generalize txt ((smarkTo k xs j).getD j []) = y at c1
      have hgb := HBASE.out g rfl
      have HKB2 : Hid (KeptBut w (w2.setCell ⟨g, j, none⟩ (.string (txt (smark (k + j))))) (.slice (some ⟨g, 0, none⟩) n cap)) := Lib.hid (fun b hbw hne => by
        have h1 : b ≠ g := fun e => hne (by rw [e]; rfl)
        rw [Below.heap_setCell _ _ _ _ h1, hb2.block b (Nat.lt_of_lt_of_le hbw HG.out.size)]
        exact HKB.out b hbw hne)
      clear hset hO3 hb2
      go_wp2
      go_roundg (n - (j + 1))
      case measure => have := HQ.out; omega
      case rel => exact ⟨j + 1, by omega, by have := HQ.out; omega, by go_num, by go_num, HSET.out, HG3.out.setCell hgb _, HKB2.out⟩
    · obtain rfl : j = n := by omega
      have hfin := HO2.out
      rw [← HN.out, smarkTo_all, HN.out] at hfin
      have HF := Lib.hid hfin
      clear hfin
      go_wp2
      go_ret
      exact ⟨by simp, ⟨HF.out, HBASE.out⟩, HG.out, HKB.out⟩

theorem markStringS_any (B : Nat) (v : Value) (xs : List (List Nat)) (k : Nat) (w : World) (h : New B w 9 v (strs xs)) (hB : B ≤ w.heap.size) (hb : xs.length ≤ 2000000) (hk0 : 1 ≤ k) (hk1 : k ≤ 100) :
    Calls Try.prog 16 #[v, .int .i64 k] w fun e w' => e = .returned (.int .i64 (k + xs.length)) ∧ New B w' 9 v (strs (smarks k xs.length)) ∧ Below B w w' :=
  (markStringS_full B v xs k w h hB hb hk0 hk1).mono fun _ _ ⟨h1, h2, h3, _⟩ => ⟨h1, h2, h3⟩

set_option maxRecDepth 100000 in
set_option maxHeartbeats 1000000 in
theorem heldStringS_any (v : Value) (n k : Nat) (w : World) (h : Own w 9 v (strs (smarks k n))) (hb : n ≤ 2000000) (hk0 : 1 ≤ k) (hk1 : k ≤ 100) :
    Calls Try.prog 17 #[v, .int .i64 k] w fun e w' => e = .returned (.int .i64 (k + n)) ∧ Below w.heap.size w w' := by
  obtain ⟨a, cap, rfl, ha⟩ := h.view
  rw [strs_len, smarks_len] at h ha ⊢
  have HO := Lib.hid h
  have HA := Lib.hid ha
  clear h ha
  go_enter Try.func17, Try.ntmps17
  go_wp2
  go_loopg [1, 5] n (fun q kk i wr => ∃ j : Nat, j ≤ n ∧ q + j = n ∧ i = .int .i64 j ∧ kk = .int .i64 ((k + j : Nat) : Int) ∧ Below w.heap.size w wr)
  case atStart => exact ⟨0, Nat.zero_le _, rfl, rfl, by simp, Below.refl _ _⟩
  case round =>
    obtain ⟨j, hj, hq, rfl, rfl, hg⟩ := hrel
    have HQ := Lib.hid hq
    have HG := Lib.hid hg
    clear hq hg
    by_cases hlt : j < n
    · obtain ⟨g, rfl⟩ := HA.out (by omega)
      have hki : (j : Int) < n := by omega
      have HT : Hid (∀ (x : Int) (W : World), x = ((k + j : Nat) : Int) → Calls Try.prog 26 #[.int .i64 x] W fun e w' => e = .returned (.string (txt (smark (k + j)))) ∧ Below W.heap.size W w') := Lib.hid (fun x W hx => by subst hx; exact markText_any (k + j) (by omega) (by omega) W)
      have hS3 : wr.drew.cell? ⟨g, j, none⟩ = some (.string (txt (smark (k + j)))) ∧ Below w.heap.size w wr.drew := ⟨(HO.out.kept HG.out).cell j _ (smarks_at k n j hlt), HG.out.drew⟩
      have hS4 : ∀ w4, Below wr.drew.heap.size wr.drew w4 → w4.cell? ⟨g, j, none⟩ = some (.string (txt (smark (k + j)))) ∧ Below w.heap.size w w4 := fun w4 hb => by
        have hB := hS3.2.trans (hb.mono hS3.2.size)
        exact ⟨(HO.out.kept hB).cell j _ (smarks_at k n j hlt), hB⟩
      have HS3 := Lib.hid hS3
      have HS4 := Lib.hid hS4
      clear hS3 hS4
      generalize txt (smark (k + j)) = y at *
      have hself : (y.toList == y.toList) = true := by simp
      go_wp2
      go_region_held3 (fun w' => w'.cell? ⟨g, j, none⟩ = some (.string y) ∧ Below w.heap.size w w') (first | exact HS3.out | exact HS4.out _ hb4) (first | (go_at_call 26; refine (HT.out _ _ (by simp)).mono ?_; rintro e3 w4 ⟨rfl, hb4⟩) | fail)
      have HB5 := Lib.hid (HS4.out _ hb4).2
      clear hb4
      go_wp2
      go_roundg (n - (j + 1))
      case measure => have := HQ.out; omega
      case rel => exact ⟨j + 1, by omega, by have := HQ.out; omega, by go_num, by go_num, HB5.out⟩
    · obtain rfl : j = n := by omega
      go_wp2
      go_ret
      exact ⟨by simp, HG.out⟩
end Go.Proofs.Ytpnagaokmfaaiaa
