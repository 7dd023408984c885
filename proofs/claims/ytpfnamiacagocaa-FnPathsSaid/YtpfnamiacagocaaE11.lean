/- WorkText in the program; steps of a path are at most one. -/
import Derived.Test.YtpfnamiacagocaaE10
import Derived.Test.YtpfnamiacagocaaEC
namespace Go.Proofs.Ytpfnamiacagocaa
open Go.RowKit
set_option linter.unusedSimpArgs false
set_option linter.unusedVariables false

def nearOk (n : Nat) (l : List Nat) : Bool := (List.range n).all fun i => decide (48 + i ≤ cf n l i) && decide (cf n l i ≤ 50 + i)
theorem cf_near {n : Nat} {l : List Nat} (h : goodL n l = true) (i : Nat) (hi : i < n) : 48 + i ≤ cf n l i ∧ cf n l i ≤ 50 + i := by
  have hk : ∀ n, n < 9 → 3 ≤ n → ∀ l ∈ chs n, nearOk n l = true := by decide +kernel
  have := hk n (by have := goodL_eight h; omega) (goodL_three h) l (mem_chs h)
  simp only [nearOk, List.all_eq_true, List.mem_range, Bool.and_eq_true, decide_eq_true_eq] at this
  exact this i hi
/-- a row's bells move by one place at most -/
def Near (n : Nat) (c : Nat → Nat) : Prop := ∀ i, i < n → 48 + i ≤ c i ∧ c i ≤ 50 + i
theorem chR_near {n : Nat} {L : List (List Nat)} (h : goodAll n L = true) : ∀ c ∈ chR n L, Near n c := by
  intro c hc
  obtain ⟨l, hl, rfl⟩ := List.mem_map.1 hc
  have h2 := goodAll_mem h l hl
  rw [goodC_in] at h2
  rw [chF_yes h2]
  exact cf_near h2
theorem plc_near {n : Nat} {f c : Nat → Nat} (hf : IsRow n f) (hc : IsRow n c) (hn : Near n c) {b : Nat} (h1 : 1 ≤ b) (hb : b ≤ n) : plc n (mulR n f c) b ≤ plc n f b + 1 ∧ plc n f b ≤ plc n (mulR n f c) b + 1 := by
  obtain ⟨p1, p2, p3⟩ := plc_spec hf h1 hb
  obtain ⟨q1, q2, q3⟩ := plc_spec (isRow_mul hf hc) h1 hb
  rw [mulR_at _ _ (by omega)] at q3
  have hlo := hc.lo (plc n (mulR n f c) b - 1) (by omega)
  have hhi := hc.hi (plc n (mulR n f c) b - 1) (by omega)
  have := hf.inj _ _ (by omega) (by omega) (p3.trans q3.symm)
  have := hn (plc n (mulR n f c) b - 1) (by omega)
  omega
/-- neighbours differ by one at most -/
def Steps : List Nat → Prop
  | a :: b :: t => a ≤ b + 1 ∧ b ≤ a + 1 ∧ Steps (b :: t)
  | _ => True
theorem path_steps {n b : Nat} (h1 : 1 ≤ b) (hb : b ≤ n) : ∀ (cs : List (Nat → Nat)) (f : Nat → Nat), IsRow n f → Rows n cs → (∀ c ∈ cs, Near n c) → Steps (pathF n cs f b)
  | [], f, hf, hc, hn => trivial
  | [c], f, hf, hc, hn => by
    have := plc_near hf hc.head (hn c List.mem_cons_self) h1 hb
    exact ⟨this.2, this.1, trivial⟩
  | c :: d :: t, f, hf, hc, hn => by
    have := plc_near hf hc.head (hn c List.mem_cons_self) h1 hb
    exact ⟨this.2, this.1, path_steps h1 hb (d :: t) (mulR n f c) (isRow_mul hf hc.head) hc.tail (fun x hx => hn x (List.mem_cons_of_mem _ hx))⟩
theorem Steps.at : ∀ {xs : List Nat}, Steps xs → ∀ i, i + 1 < xs.length → xs.getD i 0 ≤ xs.getD (i + 1) 0 + 1 ∧ xs.getD (i + 1) 0 ≤ xs.getD i 0 + 1
  | [], _, i, hi => by simp at hi
  | [a], _, i, hi => by simp at hi
  | a :: b :: t, h, 0, _ => ⟨h.1, h.2.1⟩
  | a :: b :: t, h, i + 1, hi => by
    have := Steps.at h.2.2 i (by simpa using hi)
    simpa using this

/-- the sign of one step, and of all steps of a path -/
def stepN (a b : Nat) : Nat := if a < b then 47 else if b < a then 92 else 61
def workF (xs : List Nat) (i : Nat) : Nat := stepN (xs.getD i 0) (xs.getD (i + 1) 0)
theorem stepN_lt (a b : Nat) : stepN a b < 256 := by unfold stepN; split <;> (try split) <;> omega
def workS (s : ByteArray) (n : Int) (L : List (List Nat)) (b : Int) : ByteArray := if askB s n L b = true then strOf (chR n L).length (workF (pathL s n L b)) else ⟨#[]⟩
/-- the first j signs, and zeros -/
def mixL (W : Nat → Nat) (c j : Nat) : List Value := (List.range c).map fun i => .int .u8 (if i < j then W i else 0 : Nat)
theorem mixL_len (W : Nat → Nat) (c j : Nat) : (mixL W c j).length = c := by simp [mixL]
theorem mixL_set (W : Nat → Nat) (c j : Nat) (hj : j < c) : (mixL W c j).set j (.int .u8 (W j : Nat)) = mixL W c (j + 1) := by
  apply List.ext_getElem
  · simp [mixL]
  · intro i h1 h2
    rw [List.getElem_set]
    simp only [mixL, List.getElem_map, List.getElem_range]
    by_cases e : j = i
    · subst e
      rw [if_pos rfl, if_pos (by omega)]
    · rw [if_neg e]
      by_cases h3 : i < j
      · rw [if_pos h3, if_pos (by omega)]
      · rw [if_neg h3, if_neg (by omega)]

set_option maxHeartbeats 400000 in
theorem stepLetter_any (a b : Nat) (w : World) :
    Calls Try.prog 74 #[.int .i64 a, .int .i64 b] w fun e w' => e = .returned (.int .u8 (stepN a b : Nat)) ∧ w = w' := by
  unfold stepN
  by_cases h1 : a < b
  · have h1' : (a : Int) < b := by omega
    rw [if_pos h1]
    go_enter Try.func74, Try.ntmps74
    go_wp2
    go_ret
    exact ⟨rfl, rfl⟩
  · have h1' : ¬ (a : Int) < b := by omega
    rw [if_neg h1]
    by_cases h2 : b < a
    · have h2' : (b : Int) < a := by omega
      rw [if_pos h2]
      go_enter Try.func74, Try.ntmps74
      go_wp2
      go_ret
      exact ⟨rfl, rfl⟩
    · have h2' : ¬ (b : Int) < a := by omega
      rw [if_neg h2]
      go_enter Try.func74, Try.ntmps74
      go_wp2
      go_ret
      exact ⟨rfl, rfl⟩

set_option maxRecDepth 100000 in
set_option maxHeartbeats 1000000 in
theorem iWorkText_any (s : ByteArray) (hs : s.size ≤ maxLen) (n : Int) (v : Value) (L : List (List Nat)) (b : Int) (w : World) (h : Txts w v L) (hl : L.length ≤ 2000000) :
    Calls Try.prog 24 #[.agg #[.string s, .int .i64 n, v], .int .i64 b] w fun e w' => e = .returned (.tuple #[.string (workS s n L b), .bool (askB s n L b)]) ∧ Below w.heap.size w w' := by
  obtain ⟨a, cap, rfl, hcap, -⟩ := id h
  have HT := Lib.hid h
  have HR0 := Lib.hid (RowAt.new w 26 #[.string s, .int .i64 n, .slice a L.length cap])
  have HB0 := Lib.hid ((Below.refl _ w).alloc (Nat.le_refl _) (.cells #[.string s, .int .i64 n, .slice a L.length cap] 26))
  have HC := Lib.hid (fun w h => iPathOf_any s hs n (.slice a L.length cap) L b w h hl)
  unfold NumsAny at HC
  unfold workS
  have hask := fun (h : askB s n L b = true) => askB_yes h
  have hpl : askB s n L b = true → (pathL s n L b).length = (chR n L).length + 1 := fun h => by
    unfold pathL
    rw [if_pos h]
    exact pathF_len _ _ _ _
  have hpm : askB s n L b = true → ∀ x ∈ pathL s n L b, x ≤ 8 := fun h x hx => by
    unfold pathL at hx
    rw [if_pos h] at hx
    obtain ⟨hg, h1, h2⟩ := askB_yes h
    obtain ⟨k, rfl⟩ := good_cast hg
    obtain ⟨h3, h8, hrows, h40, -⟩ := goodM_nat hg
    have := pathF_mem hrows (isRow_rdf h3 h8) (b := b.toNat) (by omega) (by omega) x (by simpa using hx)
    omega
  generalize pathL s n L b = xs at *
  generalize hab : askB s n L b = ab at *
  clear h hcap hl hs hab
  cases ab
  · clear hask hpl hpm
    rw [if_neg Bool.false_ne_true]
    generalize L.length = m at *
    go_enter Try.func24, Try.ntmps24
    go_wp2_with (first | (refine wpList_load_row rfl 26 _ rfl _ rfl 26 _ _ _ (HR0.out) Try.underlying26 rfl (by kernel_rfl) ?_) | fail)
    refine (HC.out _ (HT.out.kept HB0.out)).mono ?_
    rintro e w1 ⟨v1, rfl, -, hb1⟩
    have HB1 := Lib.hid (HB0.out.trans (hb1.mono HB0.out.size))
    go_wp2
    go_ret2
    exact ⟨rfl, HB1.out⟩
  · obtain ⟨hg, h1, h2⟩ := hask rfl
    have hpl := hpl rfl
    have hpm := hpm rfl
    obtain ⟨k, rfl⟩ := good_cast hg
    obtain ⟨h3, h8, hrows, h40, h41⟩ := goodM_nat hg
    rw [if_pos rfl]
    generalize (chR (k : Int) L).length = c at *
    have hci : (c : Int) ≤ 40 := by omega
    have hci1 : (1 : Int) ≤ c := by omega
    have HPL := Lib.hid hpl
    have HPM := Lib.hid hpm
    generalize hres : strOf c (workF xs) = res
    have HRES := Lib.hid hres
    generalize L.length = m at *
    obtain ⟨i0, hi0, hz0, hz1, hz2⟩ := info_parts infoByte
    have I0 := Lib.hid (⟨hi0, hz0, hz1, hz2⟩ : _ ∧ _ ∧ _ ∧ _)
    clear hask hg hrows hpl hpm h1 h2 h3 h8 h40 h41 hres hi0 hz0 hz1 hz2
    have hcw : IntKind.i64.wrap ((c : Int) + 1 - 1) = (c : Int) := by rw [Int.add_sub_cancel]; exact Go.IntWalk.i64_in _ ⟨by omega, by omega⟩
    go_enter Try.func24, Try.ntmps24
    go_wp2_with (first | (refine wpList_load_row rfl 26 _ rfl _ rfl 26 _ _ _ (HR0.out) Try.underlying26 rfl (by kernel_rfl) ?_) | fail)
    refine (HC.out _ (HT.out.kept HB0.out)).mono ?_
    rintro e w1 ⟨v1, rfl, hn1, hb1⟩
    have HB1 := Lib.hid (HB0.out.trans (hb1.mono HB0.out.size))
    have HV1 := Lib.hid hn1.own
    obtain ⟨a1, c1, hv1, ha1⟩ := hn1.own.view
    rw [nums_len, HPL.out] at hv1 ha1
    obtain ⟨g1, rfl⟩ := ha1 (by omega)
    subst hv1
    clear hn1 hb1 ha1 HC HB0 HR0
    go_wp2_with (first | (at_make; refine wpList_make_full _ rfl _ _ 22 rfl w1.heap.size 5 i0 (.int .u8 0) 1 Try.underlying22 I0.out.1 I0.out.2.1 I0.out.2.2.1 .i64 .i64 _ _ c rfl rfl rfl rfl (by rw [I0.out.2.2.2]; omega) (by unfold maxLen; omega) (Nat.le_refl _) ?_) | fail)
    intro w2 hown hgrow
    have HB2 := Lib.hid ((Below.refl _ w1).grown hgrow (Nat.le_refl _) (fun k hk => by cases hk))
    have HN2 : Hid (New w1.heap.size w2 5 (.slice (some ⟨w1.heap.size, 0, none⟩) c c) (mixL (workF xs) c 0)) := Lib.hid (by
      have := hown
      rw [toList_madeCells_one] at this
      have e0 : List.replicate c (Value.int .u8 0) = mixL (workF xs) c 0 := by
        apply List.ext_getElem
        · simp [mixL]
        · intro i h1 h2
          simp [mixL]
      rw [e0] at this
      exact New.of_owns this (mixL_len _ _ _))
    clear hown hgrow
    go_wp2
    go_loopg [24] c (fun q x wr => ∃ j : Nat, q + j = c ∧ x = .int .i64 j ∧ New w1.heap.size wr 5 (.slice (some ⟨w1.heap.size, 0, none⟩) c c) (mixL (workF xs) c j) ∧ Below w1.heap.size w1 wr)
    case atStart => exact ⟨0, by omega, rfl, HN2.out, HB2.out⟩
    case round =>
      clear HN2 HB2
      obtain ⟨j, hq, rfl, hn, hbl⟩ := hrel
      have HN := Lib.hid hn
      have HB := Lib.hid hbl
      clear hn hbl
      by_cases hlt : j < c
      · obtain ⟨q', rfl⟩ : ∃ q', gk = q' + 1 := ⟨gk - 1, by omega⟩
        have hji : (j : Int) < c := by omega
        have hjx : j + 1 < xs.length := by rw [HPL.out]; omega
        have hg1 : g1 < w1.heap.size := HV1.out.lt g1 rfl
        have hat : ∀ i, i < xs.length → (nums xs)[i]? = some (.int .i64 (xs.getD i 0 : Nat)) := fun i hi => by simp [nums, ints, List.getD_eq_getElem?_getD, hi]
        have c3 : wr.drew.cell? ⟨g1, j, none⟩ = some (.int .i64 (xs.getD j 0 : Nat)) := (HV1.out.kept HB.out).cell j _ (hat j (by omega))
        have c4 : wr.drew.cell? ⟨g1, j + 1, none⟩ = some (.int .i64 (xs.getD (j + 1) 0 : Nat)) := (HV1.out.kept HB.out).cell (j + 1) _ (hat (j + 1) hjx)
        obtain ⟨old, hold⟩ : ∃ u, (mixL (workF xs) c j)[j]? = some u := ⟨_, List.getElem?_eq_getElem (by rw [mixL_len]; exact hlt)⟩
        have c5 : wr.drew.cell? ⟨w1.heap.size, j, none⟩ = some old := HN.out.own.cell j _ hold
        have f5 : wr.drew.frozen? ⟨w1.heap.size, j, none⟩ = false := HN.out.own.free j
        have HST := Lib.hid (fun w => stepLetter_any (xs.getD j 0) (xs.getD (j + 1) 0) w)
        have hw0 : workF xs j = stepN (xs.getD j 0) (xs.getD (j + 1) 0) := rfl
        rw [← hw0] at HST
        have HN6 : Hid (New w1.heap.size (wr.drew.setCell ⟨w1.heap.size, j, none⟩ (.int .u8 (workF xs j : Nat))) 5 (.slice (some ⟨w1.heap.size, 0, none⟩) c c) (mixL (workF xs) c (j + 1))) := Lib.hid (by
          rw [← mixL_set _ _ _ hlt]
          exact ⟨(show Own wr.drew 5 _ _ from HN.out.own).set j _, HN.out.base⟩)
        have HB6 : Hid (Below w1.heap.size w1 (wr.drew.setCell ⟨w1.heap.size, j, none⟩ (.int .u8 (workF xs j : Nat)))) := Lib.hid (HB.out.drew.setCell (p := ⟨w1.heap.size, j, none⟩) (Nat.le_refl _) _)
        have c3s : (wr.drew.setCell ⟨w1.heap.size, j, none⟩ (.int .u8 (workF xs j : Nat))).cell? ⟨g1, j, none⟩ = some (.int .i64 (xs.getD j 0 : Nat)) := (HB6.out.cell (p := ⟨g1, j, none⟩) hg1).trans (HV1.out.cell j _ (hat j (by omega)))
        have c4s : (wr.drew.setCell ⟨w1.heap.size, j, none⟩ (.int .u8 (workF xs j : Nat))).cell? ⟨g1, j + 1, none⟩ = some (.int .i64 (xs.getD (j + 1) 0 : Nat)) := (HB6.out.cell (p := ⟨g1, j + 1, none⟩) hg1).trans (HV1.out.cell (j + 1) _ (hat (j + 1) hjx))
        generalize xs.getD j 0 = x0 at *
        generalize xs.getD (j + 1) 0 = x1 at *
        have hst8 : workF xs j < 256 := by rw [hw0]; exact stepN_lt _ _
        generalize workF xs j = st at *
        clear hw0 hold hat HN HB
        have b0 : (0 : Int) ≤ (j : Int) := by omega
        have b1 : (j : Int) < (c : Int) + 1 := by omega
        have b2 : (0 : Int) ≤ (j : Int) + 1 := by omega
        have b3 : (j : Int) + 1 < (c : Int) + 1 := by omega
        have b4 : IntKind.i64.wrap ((j : Int) + 1) = (j : Int) + 1 := Go.IntWalk.i64_in _ ⟨by omega, by omega⟩
        go_wp2
        go_region_held3 (fun w' => w'.cell? ⟨g1, j, none⟩ = some (.int .i64 (x0 : Nat)) ∧ w'.cell? ⟨g1, j + 1, none⟩ = some (.int .i64 (x1 : Nat))) (first | exact ⟨c3, c4⟩ | exact ⟨c3s, c4s⟩ | assumption) (first | (go_at_call 74; refine (HST.out _).mono ?_; rintro e4 w4 ⟨rfl, rfl⟩) | fail)
        go_wp2
        go_roundg q'
        case measure => omega
        case rel => exact ⟨j + 1, by omega, by go_num, HN6.out, HB6.out⟩
      · obtain rfl : gk = 0 := by omega
        obtain rfl : j = c := by omega
        have hconv := conv_dig wr w1.heap.size j j (workF xs) (fun i hi => HN.out.own.cell i _ (by simp [mixL, hi]))
        rw [HRES.out] at hconv
        have hw := HB1.out.size
        go_wp2
        go_ret2
        exact ⟨rfl, HB1.out.trans (HB.out.mono hw)⟩
end Go.Proofs.Ytpfnamiacagocaa
