/- Lists of texts read, copied, mirrored. -/
import Derived.Test.YtkhglknpcajmiaaK4
import Derived.Test.YtkhglknpcajmiaaS1
namespace Go.Proofs.Ytkhglknpcajmiaa
open Go.RowKit
set_option linter.unusedSimpArgs false

theorem add_at (g off j : Nat) : (⟨g, off, none⟩ : Addr).add j = ⟨g, off + j, none⟩ := by
  unfold Addr.add
  split <;> simp_all
/-- v reads as these texts; they lie anywhere in a block -/
def Txts (W : World) (v : Value) (xs : List (List Nat)) : Prop :=
  ∃ a cap, v = .slice a xs.length cap ∧ xs.length ≤ cap ∧ (0 < xs.length → ∃ g off, a = some ⟨g, off, none⟩ ∧ g < W.heap.size ∧ ∀ j, j < xs.length → W.cell? ⟨g, off + j, none⟩ = some (.string (txt (xs.getD j []))))
theorem Txts.kept {W W' : World} {v : Value} {xs : List (List Nat)} (h : Txts W v xs) (hb : Below W.heap.size W W') : Txts W' v xs := by
  obtain ⟨a, cap, rfl, hcap, ha⟩ := h
  refine ⟨a, cap, rfl, hcap, fun h0 => ?_⟩
  obtain ⟨g, off, rfl, hlt, hc⟩ := ha h0
  exact ⟨g, off, rfl, Nat.lt_of_lt_of_le hlt hb.size, fun j hj => (hb.cell (p := ⟨g, off + j, none⟩) hlt).trans (hc j hj)⟩
theorem Own.txts {W : World} {v : Value} {xs : List (List Nat)} (h : Own W 9 v (strs xs)) : Txts W v xs := by
  rcases h.shape with ⟨rfl, h0⟩ | ⟨g, cap, rfl, hcap⟩
  · have : xs = [] := by simpa [strs] using h0
    subst this
    exact ⟨none, 0, rfl, Nat.le_refl _, fun h => by simp at h⟩
  · rw [strs_len] at hcap
    refine ⟨_, cap, by rw [strs_len], hcap, fun _ => ⟨g, 0, rfl, h.lt g rfl, fun j hj => ?_⟩⟩
    rw [Nat.zero_add]
    rw [strs_len] at h
    exact h.cell j _ (strs_at xs j hj)
theorem New.of_row {B : Nat} {W : World} {v : Value} {n : Nat} {xs : List Value} (h : W.ownsRow B 9 1 v n xs) (hn : xs.length = n) : New B W 9 v xs := by
  subst hn
  obtain ⟨q1, q2⟩ := h
  refine ⟨⟨q1, ?_⟩, fun g hg => ?_⟩
  · rcases q2 with q2 | ⟨g, cap2, cur, q3, q4, q5⟩
    · exact .inl q2
    · exact .inr ⟨g, cap2, cur, q3, Nat.zero_le _, q5⟩
  · rcases q2 with ⟨rfl, _⟩ | ⟨g', cap2, cur, rfl, q4, q5⟩
    · cases hg
    · have e : g' = g := by simpa [Value.ownBlock] using hg
      rw [← e]; exact q4

/-- a slice of its own with the same texts -/
def Copied (xs : List (List Nat)) (w : World) (e : Ending) (w' : World) : Prop := ∃ v', e = .returned v' ∧ New w.heap.size w' 9 v' (strs xs) ∧ Below w.heap.size w w'
theorem clone_any (v : Value) (xs : List (List Nat)) (w : World) (h : Txts w v xs) (hl : xs.length ≤ 100000) :
    Calls Try.prog 81 #[v] w (Copied xs w) := by
  obtain ⟨a, cap, rfl, hcap, ha⟩ := h
  by_cases h0 : xs.length = 0
  · have hx : xs = [] := List.eq_nil_of_length_eq_zero h0
    subst hx
    cases a with
    | none =>
      refine (Any.slices_Clone_string_nil lays16 _ _ w).mono ?_
      rintro e w' ⟨rfl, rfl⟩
      exact ⟨_, rfl, New.nil _ _ _, Below.refl _ _⟩
    | some ad =>
      refine (Any.slices_Clone_string_zero lays16 ad cap w).mono ?_
      rintro e w' ⟨v', rfl, hr, _, hb⟩
      exact ⟨_, rfl, New.of_row hr rfl, hb⟩
  · obtain ⟨g, off, rfl, hlt, hc⟩ := ha (by omega)
    refine (Any.slices_Clone_string lays16 g off xs.length cap (xs.map txt) w (by simp) (by omega) ?_).mono ?_
    · intro j hj
      rw [List.length_map] at hj
      rw [hc j hj]
      simp [List.getD_eq_getElem?_getD, hj]
    · rintro e w' ⟨v', rfl, hr, _, hb⟩
      refine ⟨_, rfl, ?_, hb⟩
      have e1 : ((xs.map txt).take xs.length).map Value.string = strs xs := by
        rw [List.take_of_length_le (by simp)]
        simp [strs]
      rw [e1] at hr
      exact New.of_row hr (strs_len xs)

/-- the list, and behind it all its elements but the last in reverse order -/
def pal {α : Type} (xs : List α) : List α := xs ++ xs.dropLast.reverse
/-- that, down to element i -/
def palTo {α : Type} (xs : List α) (i : Nat) : List α := xs ++ (xs.dropLast.drop i).reverse
theorem palTo_start {α : Type} (xs : List α) : palTo xs (xs.length - 1) = xs := by
  unfold palTo
  rw [List.drop_eq_nil_of_le (by simp)]
  simp
theorem palTo_zero {α : Type} (xs : List α) : palTo xs 0 = pal xs := rfl
theorem palTo_step {α : Type} (xs : List α) (i : Nat) (hi : i + 1 < xs.length) : palTo xs i = palTo xs (i + 1) ++ [xs[i]'(by omega)] := by
  unfold palTo
  rw [List.drop_eq_getElem_cons (by simp; omega), List.reverse_cons, List.append_assoc]
  simp
theorem palTo_len {α : Type} (xs : List α) (i : Nat) : (palTo xs i).length ≤ 2 * xs.length := by
  unfold palTo
  simp
  omega
theorem pal_len {α : Type} (xs : List α) : (pal xs).length = 2 * xs.length - 1 := by
  unfold pal
  simp
  omega

set_option maxRecDepth 100000 in
set_option maxHeartbeats 1000000 in
theorem l1OwnS_any (v : Value) (xs : List (List Nat)) (w : World) (h : Txts w v xs) (hl : xs.length ≤ 1000) :
    Calls Try.prog 134 #[v] w (Copied xs w) := by
  obtain ⟨a, cap, rfl, hcap, ha⟩ := h
  obtain ⟨i0, hi0, hz0, hz1, hz2⟩ := info_parts infoText
  have I0 := Lib.hid (⟨hi0, hz0, hz1, hz2⟩ : _ ∧ _ ∧ _ ∧ _)
  have HA := Lib.hid ha
  have HLIT := Lib.hid (show New w.heap.size (w.alloc (.cells #[] 9)) 9 (.slice (some ⟨w.heap.size, 0, none⟩) 0 0) [] from ⟨Own.lit w 9 [] (by simp), fun g hg => by simp [Value.ownBlock] at hg; omega⟩)
  have HBL := Lib.hid ((Below.refl w.heap.size w).alloc (Nat.le_refl _) (.cells #[] 9))
  clear hi0 hz0 hz1 hz2 ha
  cases a with
  | none =>
    have h0 : xs = [] := by
      cases xs with
      | nil => rfl
      | cons b t =>
        obtain ⟨g, off, h1, _⟩ := HA.out (by simp)
        cases h1
    subst h0
    clear HA hcap
    go_enter Try.func134, Try.ntmps134
    go_wp2_with (at_builtin; refine wpList_app0 rfl (.tmp 3) (.tmp 4) 23 rfl 9 i0 Try.underlying23 I0.out.1 w.heap.size _ _ rfl HLIT.out rfl ?_)
    go_ret
    exact ⟨_, rfl, HLIT.out, HBL.out⟩
  | some ad =>
    have hcells : ∀ j u, (strs xs)[j]? = some u → (w.alloc (.cells #[] 9)).cell? (ad.add j) = some u := by
      intro j u hj
      have hjx : j < xs.length := by
        have := (List.getElem?_eq_some_iff.1 hj).1
        simpa [strs] using this
      obtain ⟨g, off, h1, hlt, hc⟩ := HA.out (by omega)
      injection h1 with h1
      subst h1
      rw [strs_at xs j hjx] at hj
      rw [add_at, HBL.out.cell (by exact hlt), hc j hjx]
      exact hj
    have HC := Lib.hid hcells
    clear hcells HA hcap
    go_enter Try.func134, Try.ntmps134
    go_wp2_with (at_builtin; refine wpList_appN rfl (.tmp 3) (.tmp 4) 23 rfl 9 i0 (.string ⟨#[]⟩) 16 Try.underlying23 I0.out.1 I0.out.2.1 I0.out.2.2.1 I0.out.2.2.2 rfl w.heap.size w _ [] rfl HLIT.out ad xs.length cap (strs xs) rfl (strs_len xs) HC.out (strs_one xs) HBL.out.size HBL.out (by simp; omega) (by omega) ?_)
    intro v4 w4 hn4 _ hb4 _ _
    have HN4 := Lib.hid hn4
    have HB4 := Lib.hid hb4
    clear hn4 hb4
    go_wp2
    go_ret
    exact ⟨_, rfl, HN4.out, HB4.out⟩

end Go.Proofs.Ytkhglknpcajmiaa
