/- Draws: lists of places. -/
import Derived.Test.YtpfnamiacagocaaGA
import Derived.Test.YtpfnamiacagocaaZ10
import Derived.Test.YtpfnamiacagocaaIB
import Derived.Test.YtpfnamiacagocaaE10
namespace Go.Proofs.Ytpfnamiacagocaa
open Go.RowKit
set_option linter.unusedSimpArgs false
set_option linter.unusedVariables false

/-- lists of places are drawn, wherever they lie -/
def DrawnL (w : World) (e : Ending) (w' : World) : Prop :=
  ∃ (v : Value) (F : List (List Int)), e = .returned v ∧ LLI w' v F ∧ F.length ≤ 8 ∧ (∀ k, (lk F k).length ≤ 1000) ∧ Below w.heap.size w w'
theorem addZ (g o j : Nat) : (⟨g, o, none⟩ : Addr).add j = ⟨g, o + j, none⟩ := by
  unfold Addr.add
  split <;> simp_all
theorem Own.argI {W : World} {v : Value} {xs : List Int} (h : Own W 3 v (ints xs)) : ArgI W v xs := by
  obtain ⟨a1, c1, rfl, ha1⟩ := h.viewI rfl
  refine ⟨a1, c1, rfl, fun h1 => ?_⟩
  obtain ⟨g1, rfl⟩ := ha1 h1
  refine ⟨_, rfl, h.lt g1 rfl, fun j hj => ?_⟩
  rw [addZ, Nat.zero_add, h.cell j _ (ints_at xs j hj)]
  simp [gx, List.getD_eq_getElem?_getD, hj]
theorem Own.argI1 {W : World} {g n c : Nat} {xs : List Int} (h : Own W 3 (.slice (some ⟨g, 0, none⟩) n c) (ints xs)) (c' : Nat) : ArgI W (.slice (some ⟨g, 1, none⟩) (xs.drop 1).length c') (xs.drop 1) := by
  refine ⟨_, c', rfl, fun h1 => ⟨_, rfl, h.lt g rfl, fun j hj => ?_⟩⟩
  rw [List.length_drop] at hj
  rw [addZ, Nat.add_comm 1 j, h.cell (j + 1) _ (ints_at xs (j + 1) (by omega))]
  simp [gx, List.getD_eq_getElem?_getD, show j + 1 < xs.length by omega]
theorem lk_range (G : Nat → List Int) (n k : Nat) : lk ((List.range n).map G) k = if k < n then G k else [] := by
  unfold lk
  rw [List.getD_eq_getElem?_getD]
  by_cases h : k < n
  · simp [h]
  · simp [h]
/-- lists that are read cell by cell -/
theorem lli_mk {W : World} {g o n cap : Nat} {V : Nat → Value} {G : Nat → List Int} (hg : g < W.heap.size) (h : ∀ k, k < n → W.cell? ⟨g, o + k, none⟩ = some (V k) ∧ ArgI W (V k) (G k)) : LLI W (.slice (some ⟨g, o, none⟩) n cap) ((List.range n).map G) := by
  refine ⟨some ⟨g, o, none⟩, cap, by simp, fun h0 => ⟨⟨g, o, none⟩, rfl, hg, fun k hk => ?_⟩⟩
  rw [List.length_map, List.length_range] at hk
  refine ⟨V k, by rw [addZ]; exact (h k hk).1, ?_⟩
  rw [lk_range, if_pos hk]
  exact (h k hk).2
theorem Lists.lliF {B : Nat} {W : World} {v : Value} {vs : List Value} {n : Nat} {F : Nat → List Int} (h : Lists B W v vs n F) : LLI W v ((List.range n).map F) :=
  (h.congr (G := lk ((List.range n).map F)) fun i hi => by rw [lk_range, if_pos hi]).read (by simp)
theorem Lists.only {B b : Nat} {W W' : World} {v : Value} {vs : List Value} {n : Nat} {F : Nat → List Int} (h : Lists B W v vs n F) (ho : Only b W W') (hb : b < B) : Lists B W' v vs n F :=
  ⟨h.outer.block fun g hg => ho.block g (h.outer.lt g hg) (by have := h.base g hg; omega), h.len, fun i hi => (h.inner i hi).block fun g hg => ho.block g ((h.inner i hi).lt g hg) (by have := h.ibase i g hi hg; omega), h.apart, h.base, h.ibase⟩
theorem lk_small {G : Nat → List Int} {n c : Nat} (h : ∀ k, k < n → (G k).length ≤ c) (k : Nat) : (lk ((List.range n).map G) k).length ≤ c := by
  rw [lk_range]
  by_cases hk : k < n
  · rw [if_pos hk]; exact h k hk
  · rw [if_neg hk]; simp
theorem pathsC_three (s : ByteArray) (n : Int) (L : List (List Nat)) (h : 0 < pathsC s n L) : 3 ≤ pathsC s n L ∧ pathsC s n L ≤ 8 ∧ 1 ≤ L.length := by
  unfold pathsC at h ⊢
  by_cases hg : goodM s n L = true
  · obtain ⟨k, rfl⟩ := good_cast hg
    obtain ⟨h3, h8, hrows, h40, hc1⟩ := goodM_nat hg
    rw [if_pos hg, Int.toNat_natCast]
    have : (chR k L).length = L.length := chR_len _ _
    exact ⟨h3, h8, by omega⟩
  · rw [if_neg hg] at h
    omega

set_option maxRecDepth 100000 in
set_option maxHeartbeats 1000000 in
theorem DrawRowsOf_any (a : Option Addr) (len cap : Nat) (zs : List Int) (w : World) (hz : IsBytes w a len cap zs) (hl : len ≤ 1048576) :
    Calls Try.prog 26 #[.slice a len cap] w (DrawnL w) := by
  have hcode := codeAt_of hz
  have HCUR := Lib.hid (cur_new a len cap w hcode hl)
  clear hz hcode
  obtain ⟨W0, hW0⟩ : ∃ W0, w.alloc (.cells #[.slice a len cap, .int .i64 0, .int .u64 0] 90) = W0 := ⟨_, rfl⟩
  have HBW : Hid (∀ W', Only w.heap.size W0 W' → Below w.heap.size w W') := Lib.hid (fun W' h => by rw [← hW0] at h; exact cur_below h)
  have HSZ : Hid (W0.heap.size = w.heap.size + 1) := Lib.hid (by rw [← hW0]; simp)
  rw [hW0] at HCUR
  have HC0 := Lib.hid HCUR.out
  have hwb : w.heap.size + 1 ≤ W0.heap.size := by have := HSZ.out; omega
  go_enter Try.func26, Try.ntmps26
  go_wp2_with fail
  refine (method_draw w.heap.size a len cap 0 (by omega) _ HC0.out).mono ?_
  rintro e w1 ⟨s, n, v, L, rfl, hsz, hn3, hn6, hn, hL, hs, hd⟩
  have HD1 := Lib.hid ((Dr.start HC0.out).call hd.cur hd.only)
  have HPS := Lib.hid (sPathsOf_any s (by unfold maxLen; omega) n v L _ hn.own.txts (by omega) (fun l hl => by have := hs l hl; unfold maxLen; omega))
  have hpc := pathsC_three s n L
  have HFL : Hid (∀ k, (pathsF s n L k).length = L.length + 1) := Lib.hid (pathsF_len s n L)
  have HN1 := Lib.hid hn.own
  obtain ⟨av, cv, hv, -⟩ := hn.own.view
  subst hv
  generalize pathsC s n L = p at *
  generalize pathsF s n L = F at *
  generalize goodM s n L = flag at *
  unfold ListsR at HPS
  have hw1 : w.heap.size + 1 ≤ w1.heap.size := Nat.le_trans hwb HD1.out.only.size
  clear hn hs hd HCUR
  go_wp2_with fail
  refine HPS.out.mono ?_
  rintro e w2 ⟨v2, vs2, rfl, hn2, hb2⟩
  have HD2 := Lib.hid (HD1.out.below HC0.out (hb2.mono HD1.out.only.size))
  have HV2 := Lib.hid hn2
  have hw2 := hb2.size
  clear hn2 hb2 HD1 HPS HN1
  obtain ⟨a2, c2, hv2, ha2⟩ := HV2.out.view
  subst hv2
  by_cases hp0 : p = 0
  · subst hp0
    go_wp2
    go_ret
    exact ⟨.slice a2 0 c2, [], rfl, HV2.out.lliF, by simp, fun k => by simp [lk], HBW.out _ HD2.out.only⟩
  · obtain ⟨hp3, hp8, hL1⟩ := hpc (by omega)
    obtain ⟨g2, rfl⟩ := ha2 (by omega)
    have hpi : (0 : Int) < p := by omega
    have hpi8 : (p : Int) ≤ 8 := by omega
    go_wp2_with fail
    refine (pick_any w.heap.size a len cap _ p (by omega) (by omega) (by omega) _ HD2.out.cur).mono ?_
    rintro e w3 ⟨k, hk, rfl, hc3, ho3⟩
    have HD3 := Lib.hid (HD2.out.call hc3 ho3)
    have HV3 := Lib.hid (HV2.out.only ho3 (by omega))
    clear hc3 HD2 HV2
    go_wp2_with fail
    refine (pick_any w.heap.size a len cap _ 10 (by omega) (by omega) (by omega) _ HD3.out.cur).mono ?_
    rintro e w4 ⟨y, hy, rfl, hc4, ho4⟩
    have HD4 := Lib.hid (HD3.out.call hc4 ho4)
    have HV4 := Lib.hid (HV3.out.only ho4 (by omega))
    clear hc4 HD3 HV3 ho3 ho4
    have hki : (k : Int) < p := by omega
    have hki0 : (0 : Int) ≤ k := by omega
    by_cases h0 : y = 0
    · subst h0
      have hin := HV4.out.inner k hk
      obtain ⟨a1, c1, hv1, ha1⟩ := hin.viewI (HFL.out k)
      obtain ⟨g1, rfl⟩ := ha1 (by omega)
      rw [hv1] at hin
      have hap : g2 ≠ g1 := fun e => by
        have := hin.apart HV4.out.outer (by decide) g1 rfl
        exact this (by rw [e]; rfl)
      have HV1 := Lib.hid hv1
      have cc : w4.cell? ⟨g2, k, none⟩ = some (.slice (some ⟨g1, 0, none⟩) (L.length + 1) c1) := by
        rw [← hv1]
        exact HV4.out.outer.cell k _ (HV4.out.at k hk)
      obtain ⟨m, hm⟩ : ∃ m, L.length = m := ⟨_, rfl⟩
      have hcap : L.length + 1 ≤ c1 := by
        have := hin.cap_le
        rw [ints_len, HFL.out] at this
        exact this
      have HIN := Lib.hid hin
      rw [hm] at cc hcap HIN HV1
      have hm1 : 1 ≤ m := by omega
      have hm20 : (m : Int) ≤ 20 := by omega
      have hci : (m : Int) + 1 ≤ c1 := by omega
      have HFM : Hid (∀ k, (F k).length = m + 1) := Lib.hid (fun k => by rw [← hm]; exact HFL.out k)
      obtain ⟨f0, t0, hft⟩ : ∃ f0 t0, F k = f0 :: t0 := by
        have := HFM.out k
        cases hf : F k with
        | nil => rw [hf] at this; simp at this
        | cons f0 t0 => exact ⟨f0, t0, rfl⟩
      have HFT := Lib.hid hft
      have HSS : Hid (∀ W', Only w.heap.size w4 W' → W'.cell? ⟨g2, k, none⟩ = some (.slice (some ⟨g1, 0, none⟩) (m + 1) c1) ∧ W'.cell? ⟨g1, 0, none⟩ = some (.int .i64 f0) ∧ W'.frozen? ⟨g1, 0, none⟩ = false ∧ Lists w1.heap.size W' (.slice (some ⟨g2, 0, none⟩) p c2) vs2 p F) := Lib.hid (fun W' h => by
        have hL := HV4.out.only h (by omega)
        have hi := hL.inner k hk
        rw [HV1.out] at hi
        refine ⟨?_, ?_, hi.free 0, hL⟩
        · rw [← HV1.out]
          exact hL.outer.cell k _ (hL.at k hk)
        · exact hi.cell 0 _ (by rw [HFT.out]; simp [ints]))
      have HS0 := HSS.out _ (Only.refl w.heap.size w4).drew
      have HP : Hid (Calls Try.prog 76 #[.pointer (some ⟨w.heap.size, 0, none⟩), .int .i64 9] w4.drew _) := Lib.hid (pick_any w.heap.size a len cap _ 9 (by omega) (by omega) (by omega) w4.drew HD4.out.drew.cur)
      have HST : Hid (∀ W' (x : Int), Only w.heap.size w4 W' → (W'.setCell ⟨g1, 0, none⟩ (.int .i64 x)).cell? ⟨g2, k, none⟩ = some (.slice (some ⟨g1, 0, none⟩) (m + 1) c1)) := Lib.hid (fun W' x h => by
        have hL := (HSS.out W' h).2.2.2
        rw [← HV1.out]
        exact (hL.outer.grown (grownBy_put W' g1 0 _) (fun g hg e => hap ((Option.some.inj (show some g2 = some g from hg)).trans (Option.some.inj e)))).cell k _ (hL.at k hk))
      have hZ0 := HS0.1
      have HDO := Lib.hid HD4.out.only
      clear hft hin hv1 hm HD4 ha1
      unfold SomeNum at HP
      go_wp2
      go_region_held3 (fun w' => w'.cell? ⟨g2, k, none⟩ = some (.slice (some ⟨g1, 0, none⟩) (m + 1) c1)) (first | assumption | exact hS5.1 | exact HST.out _ _ hO5) (first | (go_at_call 76; refine HP.out.mono ?_; rintro e5 w5 ⟨x, hx, rfl, hc5, ho5⟩; have hO5 := (Only.refl w.heap.size w4).drew.trans ho5; have hS5 := HSS.out _ hO5; have q0 := hS5.2.1; have q1 := hS5.2.2.1) | fail)
      have HTN : Hid (Lists w1.heap.size (w5.setCell ⟨g1, 0, none⟩ (.int .i64 (x : Nat))) (.slice (some ⟨g2, 0, none⟩) p c2) vs2 p (fun i => if i = k then (x : Int) :: t0 else F i)) := Lib.hid (by
        have hL := hS5.2.2.2
        have hi := hL.inner k hk
        refine hL.turn k hk (by rw [HV1.out]; exact grownBy_put _ _ _ _) ?_ (fun i _ hne => by rw [if_neg hne])
        rw [HV1.out] at hi ⊢
        rw [if_pos rfl]
        have := hi.set 0 (.int .i64 (x : Nat))
        rw [HFT.out] at this
        exact this)
      have HBB := Lib.hid ((HBW.out _ (HDO.out.trans hO5)).setCell (p := ⟨g1, 0, none⟩) (show w.heap.size ≤ g1 by have := HV4.out.ibase k g1 hk (by rw [HV1.out]; rfl); omega) (.int .i64 (x : Nat)))
      go_wp2
      go_ret
      exact ⟨.slice (some ⟨g2, 0, none⟩) p c2, _, rfl, HTN.out.lliF, by simp; omega, fun i => by
        refine lk_small (c := 1000) (fun j _ => ?_) i
        have h9 := HFM.out k
        rw [HFT.out] at h9
        simp at h9
        by_cases e : j = k
        · rw [if_pos e]; simp; omega
        · rw [if_neg e, HFM.out j]; omega, HBB.out⟩
    by_cases h1 : y = 1
    · subst h1
      have hcap : p ≤ c2 := by
        have := HV4.out.outer.cap_le
        rw [HV4.out.len] at this
        exact this
      have hci : (p : Int) ≤ c2 := by omega
      have hp1 : (1 : Int) ≤ p := by omega
      have HW := Lib.hid hcap
      go_wp2
      go_ret
      exact ⟨.slice (some ⟨g2, 1, none⟩) (p - 1) (c2 - 1), (List.range (p - 1)).map fun i => F (1 + i), rfl, lli_mk (V := fun i => vs2.getD (1 + i) nilV) (HV4.out.outer.lt g2 rfl) (fun i hi => ⟨HV4.out.outer.cell (1 + i) _ (HV4.out.at (1 + i) (by omega)), (HV4.out.inner (1 + i) (by omega)).argI⟩), by simp; omega, fun i => lk_small (c := 1000) (fun j _ => by have := HFL.out (1 + j); omega) i, HBW.out _ HD4.out.only⟩
    by_cases h2 : y = 2
    · subst h2
      have hin := HV4.out.inner k hk
      obtain ⟨a1, c1, hv1, ha1⟩ := hin.viewI (HFL.out k)
      obtain ⟨g1, rfl⟩ := ha1 (by omega)
      rw [hv1] at hin
      have hap : g2 ≠ g1 := fun e => by
        have := hin.apart HV4.out.outer (by decide) g1 rfl
        exact this (by rw [e]; rfl)
      have HV1 := Lib.hid hv1
      have cc : w4.cell? ⟨g2, k, none⟩ = some (.slice (some ⟨g1, 0, none⟩) (L.length + 1) c1) := by
        rw [← hv1]
        exact HV4.out.outer.cell k _ (HV4.out.at k hk)
      obtain ⟨m, hm⟩ : ∃ m, L.length = m := ⟨_, rfl⟩
      have hcap : L.length + 1 ≤ c1 := by
        have := hin.cap_le
        rw [ints_len, HFL.out] at this
        exact this
      have HIN := Lib.hid hin
      rw [hm] at cc hcap HIN HV1
      have hm1 : 1 ≤ m := by omega
      have hm20 : (m : Int) ≤ 20 := by omega
      have hci : (m : Int) + 1 ≤ c1 := by omega
      have HFM : Hid (∀ k, (F k).length = m + 1) := Lib.hid (fun k => by rw [← hm]; exact HFL.out k)
      have c5 := cc
      have f5 := HV4.out.outer.free k
      clear hin hv1 hm ha1
      go_wp2
      go_ret
      have HOS := HV4.out.outer.set k (.slice (some ⟨g1, 1, none⟩) m (c1 - 1))
      exact ⟨.slice (some ⟨g2, 0, none⟩) p c2, (List.range p).map fun i => if i = k then (F k).drop 1 else F i, rfl, lli_mk (V := fun i => if i = k then .slice (some ⟨g1, 1, none⟩) m (c1 - 1) else vs2.getD i nilV) (HOS.lt g2 rfl) (fun i hi => ⟨by
        rw [Nat.zero_add]
        refine HOS.cell i _ ?_
        rw [List.getElem?_set]
        by_cases e : k = i
        · rw [if_pos e, if_pos e.symm, if_pos (by have := HV4.out.len; omega)]
        · rw [if_neg e, if_neg (fun q => e q.symm)]
          exact HV4.out.at i hi, by
        by_cases e : i = k
        · rw [if_pos e, if_pos e]
          have hq := (HIN.out.grown (grownBy_put w4 g2 k (.slice (some ⟨g1, 1, none⟩) m (c1 - 1))) (fun g hg e2 => hap ((Option.some.inj e2).symm.trans (Option.some.inj (show some g1 = some g from hg)).symm))).argI1 (c1 - 1)
          rw [List.length_drop, HFM.out] at hq
          exact hq
        · rw [if_neg e, if_neg e]
          have hii := HV4.out.inner i hi
          exact (hii.grown (grownBy_put w4 g2 k _) (fun g hg e2 => hii.apart HV4.out.outer (by decide) g hg (by rw [e2]; rfl))).argI⟩), by simp; omega, fun i => by
        refine lk_small (c := 1000) (fun j _ => ?_) i
        by_cases e : j = k
        · rw [if_pos e, List.length_drop, HFM.out]; omega
        · rw [if_neg e, HFM.out j]; omega, (HBW.out _ HD4.out.only).setCell (p := ⟨g2, k, none⟩) (show w.heap.size ≤ g2 by have := HV4.out.base g2 rfl; omega) _⟩
    have e0 : ((y : Int) == 0) = false := by rw [beq_eq_false_iff_ne]; omega
    have e1 : ((y : Int) == 1) = false := by rw [beq_eq_false_iff_ne]; omega
    have e2 : ((y : Int) == 2) = false := by rw [beq_eq_false_iff_ne]; omega
    clear h0 h1 h2
    go_wp2
    go_ret
    exact ⟨.slice (some ⟨g2, 0, none⟩) p c2, _, rfl, HV4.out.lliF, by simp; omega, fun k => by have := lk_small (G := F) (n := p) (c := 1000) (fun k _ => by have := HFL.out k; omega) k; omega, HBW.out _ HD4.out.only⟩
end Go.Proofs.Ytpfnamiacagocaa
