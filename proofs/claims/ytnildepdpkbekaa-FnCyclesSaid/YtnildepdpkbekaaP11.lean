/- Plain facts: the cycles as lists; moved places and places that stay. No program here. -/
import Derived.Test.YtnildepdpkbekaaP10
namespace Go.Proofs.Ytnildepdpkbekaa

/-- what a cycle of the list is -/
structure CycOf (n : Nat) (f : Nat → Nat) (c : List Int) (s m : Nat) : Prop where
  lt : s < n
  per : IsPer n f s m
  two : 2 ≤ m
  eq : c = cycTo n f s m
theorem cycs_of {n : Nat} {f : Nat → Nat} (h : IsRow n f) : ∀ k, k ≤ n → ∀ c, c ∈ cycs n f k → ∃ s m, CycOf n f c s m
  | 0, _, c, hc => by simp [cycs] at hc
  | k + 1, hk, c, hc => by
    by_cases hd : ((k : Int) + 1) ∈ (cycs n f k).flatten ∨ f k = 49 + k
    · rw [cycs_skip hd] at hc
      exact cycs_of h k (by omega) c hc
    · rw [cycs_add hd, List.mem_append] at hc
      rcases hc with hc | hc
      · exact cycs_of h k (by omega) c hc
      · have hkn : k < n := by omega
        have hp := perN_spec h hkn
        have hne : perN n f k ≠ 1 := fun e => hd (Or.inr ((fixed_per h hkn).2 e))
        exact ⟨k, perN n f k, hkn, hp, by have := hp.pos; omega, List.mem_singleton.1 hc⟩
theorem per_divides {n : Nat} {f : Nat → Nat} (h : IsRow n f) {s m k : Nat} (hs : s < n) (hp : IsPer n f s m) (hk : powR n f k = rdf n) : k % m = 0 := by
  have e : orb n f s k = s := by unfold orb; rw [hk]; simp only [rdf, hs, if_true]; omega
  rw [orb_mod h hs hp k] at e
  by_cases h0 : k % m = 0
  · exact h0
  · exact absurd e (hp.least (k % m) (by omega) (Nat.mod_lt _ hp.pos))
theorem cyc_get {n : Nat} (f : Nat → Nat) (s m : Nat) {k : Nat} (hk : k < (cycTo n f s m).length) : (cycTo n f s m)[k] = ((orb n f s k + 1 : Nat) : Int) := by
  simp [cycTo]

/-- how many of the first n numbers a list without twins of them holds -/
theorem cnt_list (n : Nat) : ∀ L : List Int, L.Nodup → (∀ y, y ∈ L → ∃ v, v < n ∧ y = ((v + 1 : Nat) : Int)) → sumN (fun x => if ((x : Int) + 1) ∈ L then 1 else 0) n = L.length
  | [], _, _ => by
    have : ∀ n, sumN (fun x => if ((x : Int) + 1) ∈ ([] : List Int) then 1 else 0) n = 0 := fun n => by
      induction n with
      | zero => rfl
      | succ n ih => show sumN _ n + _ = 0; rw [ih]; simp
    exact this n
  | y :: L, hn, hb => by
    have hn' := List.nodup_cons.1 hn
    obtain ⟨v, hv, rfl⟩ := hb y (List.mem_cons_self ..)
    have ih := cnt_list n L hn'.2 (fun z hz => hb z (List.mem_cons_of_mem _ hz))
    have hput := sumN_put (fun x => if ((x : Int) + 1) ∈ L then 1 else 0) 1 v n hv
    rw [ih] at hput
    have e0 : (if ((v : Int) + 1) ∈ L then 1 else 0) = 0 := if_neg (by have := hn'.1; simpa using this)
    have e1 : sumN (fun x => if ((x : Int) + 1) ∈ ((v + 1 : Nat) : Int) :: L then 1 else 0) n = sumN (fun x => if x = v then 1 else if ((x : Int) + 1) ∈ L then 1 else 0) n :=
      sumN_congr n fun x _ => by
        by_cases q : x = v
        · subst q; simp
        · have : ¬ ((x : Int) + 1 = ((v + 1 : Nat) : Int)) := by omega
          simp only [List.mem_cons, this, q, false_or, if_false]
    rw [e1, List.length_cons]
    rw [e0] at hput
    omega
theorem cycTo_nodup {n : Nat} {f : Nat → Nat} (h : IsRow n f) {i m : Nat} (hi : i < n) (hm : IsPer n f i m) : ∀ k, k ≤ m → (cycTo n f i k).Nodup
  | 0, _ => by simp [cycTo]
  | k + 1, hk => by
    rw [cycTo_succ, List.nodup_append]
    refine ⟨cycTo_nodup h hi hm k (by omega), by simp, fun a ha b hb e => ?_⟩
    obtain rfl : b = _ := by simpa using hb
    subst e
    exact cyc_new h hi hm (show k < m by omega) ha
theorem flat_nodup {n : Nat} {f : Nat → Nat} (h : IsRow n f) : ∀ k, k ≤ n → (cycs n f k).flatten.Nodup
  | 0, _ => by simp [cycs]
  | k + 1, hk => by
    by_cases hd : ((k : Int) + 1) ∈ (cycs n f k).flatten ∨ f k = 49 + k
    · rw [cycs_skip hd]; exact flat_nodup h k (by omega)
    · have hkn : k < n := by omega
      rw [cycs_add hd, List.flatten_append, List.nodup_append]
      refine ⟨flat_nodup h k (by omega), by simpa [cyc] using cycTo_nodup h hkn (perN_spec h hkn) _ (Nat.le_refl _), fun a ha b hb e => ?_⟩
      subst e
      have hb' : a ∈ cyc n f k := by simpa using hb
      obtain ⟨j, rfl⟩ := (mem_cyc h hkn).1 hb'
      exact hd (Or.inl (cycs_flip h (by omega) hkn ha))
theorem cyc_moves {n : Nat} {f : Nat → Nat} (h : IsRow n f) {x : Nat} (hm : ((x : Int) + 1) ∈ (cycs n f n).flatten) : f x ≠ 49 + x := by
  intro e
  obtain ⟨c, hc, hxc⟩ := List.mem_flatten.1 hm
  obtain ⟨s, m, hcy⟩ := cycs_of h n (Nat.le_refl _) c hc
  rw [hcy.eq, mem_cycTo] at hxc
  obtain ⟨j, hj, ej⟩ := hxc
  have hxo : x = orb n f s j := by omega
  have h1 := orb_succ h hcy.lt j
  rw [← hxo, e] at h1
  have h2 : orb n f s j = orb n f s (j + 1) := by omega
  exact hcy.per.least 1 (by omega) (by have := hcy.two; omega) (orb_back h hcy.lt j 1 h2)
def stayN (f : Nat → Nat) (n : Nat) : Nat := sumN (fun x => if f x = 49 + x then 1 else 0) n
theorem stayN_le (f : Nat → Nat) : ∀ n, stayN f n ≤ n
  | 0 => Nat.le_refl _
  | n + 1 => by
    have := stayN_le f n
    show stayN f n + (if f n = 49 + n then 1 else 0) ≤ _
    split <;> omega
theorem moved_stay {n : Nat} {f : Nat → Nat} (h : IsRow n f) : (cycs n f n).flatten.length + stayN f n = n := by
  have h1 := cnt_list n (cycs n f n).flatten (flat_nodup h n (Nat.le_refl _)) (fun y hy => by
    obtain ⟨s, hs, hm, _⟩ := cycs_mem h (Nat.le_refl _) hy
    obtain ⟨j, e⟩ := (mem_cyc h hs).1 hm
    exact ⟨orb n f s j, orb_lt h hs j, e⟩)
  rw [← h1]
  unfold stayN
  rw [← sumN_add, sumN_congr n (G := fun _ => 1) (fun x hx => ?_)]
  · have : ∀ n, sumN (fun _ => 1) n = n := fun n => by
      induction n with
      | zero => rfl
      | succ n ih => show sumN _ n + 1 = _; rw [ih]
    exact this n
  · by_cases q : ((x : Int) + 1) ∈ (cycs n f n).flatten
    · rw [if_pos q, if_neg (cyc_moves h q)]
    · rw [if_neg q, if_pos ((cycs_cov h n (Nat.le_refl _) x hx).resolve_left q)]
end Go.Proofs.Ytnildepdpkbekaa
