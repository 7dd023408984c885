/- slices.DeleteFunc of rows, with the closure of MeetIn. -/
import Derived.Test.YtnoepobbecobbaaSN
import Derived.Test.YtnoepobbecobbaaRCA
import Derived.Test.YtnoepobbecobbaaUJ
import Derived.Lib.SliceRun
namespace Go.Proofs.Ytnoepobbecobbaa
open Go.RowKit
set_option linter.unusedSimpArgs false
set_option linter.unusedVariables false

theorem zc8 (n : Nat) : (Builtin.zeroCells zero8 n).size = n * 8 := by simp [Builtin.zeroCells, zero8]
theorem zc8_one (n : Nat) : ∀ v ∈ (Builtin.zeroCells zero8 n).toList, v.oneCell' = true := by
  intro v hv
  rw [Array.mem_toList_iff] at hv
  simp only [Builtin.zeroCells, Array.mem_map, Array.mem_range] at hv
  obtain ⟨k, hk, rfl⟩ := hv
  have h8 : k % 8 < 8 := Nat.mod_lt _ (by omega)
  have hs : zero8.size = 8 := rfl
  rw [hs]
  generalize k % 8 = q at *
  rcases q with _ | _ | _ | _ | _ | _ | _ | _ | q
  all_goals first | rfl | omega
theorem run_clear8 (w : World) (t ty : TypeId) (ht : Try.prog.underlying t = some (.slice 80)) (b o n c : Nat) (hn : 0 < n)
    (hc : ∀ j, j < n * 8 → (w.cell? ⟨b, o + j, none⟩).isSome = true) (hf : ∀ j, j < n * 8 → w.frozen? ⟨b, o + j, none⟩ = false) :
    (Builtin.clear_ #[t] ty #[.slice (some ⟨b, o, none⟩) n c]).run Try.prog w = .ok (.tuple #[]) (w.setCells b o (Builtin.zeroCells zero8 n).toList) := by
  have hst := run_storeCells_cells (P := Try.prog) b o (Builtin.zeroCells zero8 n).toList 0 w (by
    intro j hj
    rw [Array.length_toList, zc8] at hj
    exact hc j hj) (by
    intro j hj
    rw [Array.length_toList, zc8] at hj
    exact hf j hj) (zc8_one n)
  simp only [Nat.add_zero] at hst
  obtain ⟨i, hi, hz, hsz, hby⟩ := info_parts8
  have hv : (zeroValue 80).run Try.prog w = .ok (.agg zero8) w := by
    simp [zeroValue, typeInfo, hi, hz]
  obtain ⟨m, rfl⟩ : ∃ m, n = m + 1 := ⟨n - 1, by omega⟩
  have hcz : (Value.agg zero8).cells = zero8 := rfl
  simp [Builtin.clear_, run_underlying ht, hv, hcz, hst]

theorem RowAt.cellsK {T : TypeId} {g : Nat} : ∀ (vs : List Value) (o : Nat) (cs : Array Value) (W : World), RowAt W g T cs → ∃ cs', RowAt (W.setCells g o vs) g T cs' ∧ cs'.size = cs.size ∧ ∀ k, k < o → cs'[k]? = cs[k]?
  | [], _, cs, _, h => ⟨cs, h, rfl, fun _ _ => rfl⟩
  | v :: vs, o, cs, W, h => by
    obtain ⟨cs', h1, h2, h3⟩ := RowAt.cellsK vs (o + 1) _ _ (h.set o v)
    refine ⟨cs', h1, by rw [h2]; simp, fun k hk => ?_⟩
    rw [h3 k (by omega), Array.getElem?_setIfInBounds, if_neg (by omega)]
theorem below_cellsK {B g : Nat} {w : World} (hg : B ≤ g) : ∀ (vs : List Value) (o : Nat) (W : World), Below B w W → Below B w (W.setCells g o vs)
  | [], _, _, h => h
  | v :: vs, o, W, h => below_cellsK hg vs (o + 1) _ (h.setCell (p := ⟨g, o, none⟩) hg v)
theorem flat_take : ∀ (fs : List (Nat → Nat)) (i : Nat), (flat fs).take (i * 8) = flat (fs.take i)
  | [], i => by simp [flat]
  | f :: t, 0 => by simp [flat]
  | f :: t, i + 1 => by
    have h8 : (cells8 f).length = 8 := rfl
    show (cells8 f ++ flat t).take ((i + 1) * 8) = cells8 f ++ flat (t.take i)
    rw [show (i + 1) * 8 = (cells8 f).length + i * 8 by rw [h8]; omega, List.take_length_add_append, flat_take t i]
/-- the front part of rows of one's own, what stands behind it overwritten -/
theorem NewD.front {B g n cap : Nat} {W : World} {fs : List (Nat → Nat)} (h : NewD B W (.slice (some ⟨g, 0, none⟩) n cap) fs) (i : Nat) (hi : i ≤ n) (vs : List Value) :
    NewD B (W.setCells g (i * 8) vs) (.slice (some ⟨g, 0, none⟩) i cap) (fs.take i) := by
  obtain ⟨h1, h2⟩ := h
  rcases h2 with ⟨h0, _⟩ | ⟨g', cap', cur, hv, hbg, hg, hle, hm, hs, ht⟩
  · cases h0
  · injection hv with e1 e2 e3
    injection e1 with e1
    injection e1 with e1
    subst e1 e2 e3
    obtain ⟨cs', q1, q2, q3⟩ := RowAt.cellsK (T := 80) vs (i * 8) cur W hg
    have hlen : (fs.take i).length = i := by rw [List.length_take]; omega
    refine ⟨by rw [flat_len], .inr ⟨g, cap, cs', by rw [hlen], hbg, q1, by rw [hlen]; omega, hm, by rw [q2]; exact hs, ?_⟩⟩
    rw [hlen, ← flat_take, ← ht, List.take_take, Nat.min_eq_left (by omega)]
    apply List.ext_getElem?
    intro k
    rw [List.getElem?_take, List.getElem?_take]
    by_cases hk : k < i * 8
    · rw [if_pos hk, if_pos hk, Array.getElem?_toList, Array.getElem?_toList, q3 k hk]
    · rw [if_neg hk, if_neg hk]
theorem NewD.cellsOk {B g n cap : Nat} {W : World} {fs : List (Nat → Nat)} (h : NewD B W (.slice (some ⟨g, 0, none⟩) n cap) fs) (k : Nat) (hk : k < n * 8) : (W.cell? ⟨g, k, none⟩).isSome = true ∧ W.frozen? ⟨g, k, none⟩ = false := by
  obtain ⟨h1, h2⟩ := h
  rcases h2 with ⟨h0, _⟩ | ⟨g', cap', cur, hv, hbg, hg, hle, hm, hs, ht⟩
  · cases h0
  · injection hv with e1 e2 e3
    injection e1 with e1
    injection e1 with e1
    subst e1 e2 e3
    have hr : RowAt W g 80 cur := hg
    have hlt : k < cur.size := by
      rw [hs]
      have : fs.length * 8 ≤ cap * 8 := Nat.mul_le_mul_right _ hle
      omega
    refine ⟨?_, hr.free k⟩
    rw [hr.cell k (Array.getElem?_eq_getElem hlt)]
    rfl

set_option maxRecDepth 100000 in
set_option maxHeartbeats 1000000 in
theorem closureM_any (n : Nat) (S : List (Nat → Nat)) (cb mb : Nat) (x : Nat → Nat) (hx : IsRow n x) (W : World) (hr : RowAt W cb 86 #[.map (some mb)]) (hs : SetAt W n mb S) :
    Calls Try.prog 86 #[.agg (dig8 x), .pointer (some ⟨cb, 0, none⟩)] W fun e w' => e = .returned (.bool (!inB x S)) ∧ Below W.heap.size W w' := by
  have HX := Lib.hid hx
  have hb := (Below.refl W.heap.size W).alloc (Nat.le_refl _) (.cells (dig8 x) 80)
  have HB := Lib.hid hb
  have HS := Lib.hid (hs.kept hb)
  have HD := Lib.hid (RowAt.new W 80 (dig8 x))
  have c1 := (hr.kept hb).cell 0 rfl
  clear hx hr hs hb
  go_enter Try.func86, Try.ntmps86
  go_wp2_with (first | (refine wpList_load_row rfl 80 _ rfl _ rfl 80 _ _ _ (HD.out) Try.underlying80 rfl (by kernel_rfl) ?_) | (at_lookup; refine wpList_look_row rfl _ _ rfl n mb S x HX.out HS.out rfl rfl ?_) | fail)
  go_ret
  exact ⟨rfl, HB.out⟩

set_option maxRecDepth 100000 in
set_option maxHeartbeats 1000000 in
theorem indexFuncM_any (n : Nat) (S : List (Nat → Nat)) (cb mb : Nat) (v : Value) (B : Nat) (xs : List (Nat → Nat)) (hx : Rows n xs) (hl : xs.length ≤ 1000) (W : World) (hr : RowAt W cb 86 #[.map (some mb)]) (hs : SetAt W n mb S) (hv : NewD B W v xs) :
    Calls Try.prog 128 #[v, .func (.func 86) #[] #[.pointer (some ⟨cb, 0, none⟩)]] W fun e w' => (∃ k : Nat, k ≤ xs.length ∧ (∀ t (h : t < xs.length), t < k → inB xs[t] S = true) ∧ ((k = xs.length ∧ e = .returned (.int .i64 (-1))) ∨ (∃ h : k < xs.length, inB xs[k] S = false ∧ e = .returned (.int .i64 k)))) ∧ Below W.heap.size W w' := by
  obtain ⟨m, hm⟩ : ∃ m, xs.length = m := ⟨_, rfl⟩
  obtain ⟨a, cap, rfl, -, ha⟩ := hv.view hm
  rw [hm] at hl
  have HV := Lib.hid hv
  have HA := Lib.hid ha
  have HM := Lib.hid hm
  have HX := Lib.hid hx
  have HR := Lib.hid hr
  have HS := Lib.hid hs
  have hmi : (m : Int) ≤ 1000 := by omega
  clear hv ha hm hx hr hs
  go_enter Try.func128, Try.ntmps128
  go_wp2
  go_loopg [5, 8] m (fun q _ ix wr => ∃ i : Nat, q + i = m ∧ ix = .int .i64 i ∧ (∀ t (h : t < xs.length), t < i → inB xs[t] S = true) ∧ Below W.heap.size W wr)
  case atStart => exact ⟨0, by omega, rfl, fun t h ht => by omega, Below.refl _ _⟩
  case round =>
    obtain ⟨i, hqi, rfl, hall, hb⟩ := hrel
    have HALL := Lib.hid hall
    have HB := Lib.hid hb
    clear hall hb
    by_cases hlt : i < m
    · obtain ⟨g, rfl⟩ := HA.out (by omega)
      have hix : i < xs.length := by rw [HM.out]; exact hlt
      have hload := (HV.out.kept HB.out).at8 i hix
      have HL := Lib.hid hload
      have hxi := HX.out _ (List.getElem_mem hix)
      have HC := Lib.hid (closureM_any n S cb mb xs[i] hxi _ (HR.out.kept HB.out) (HS.out.kept HB.out))
      have hii : (i : Int) < m := by omega
      clear hload
      cases hk : inB xs[i] S
      · rw [hk] at HC
        have HK := Lib.hid hk
        clear hk
        go_wp2_with (first | (refine wpList_load8 rfl _ rfl g (i * 8) rfl xs[i] HL.out ?_) | (go_at_call 86; refine HC.out.mono ?_; rintro e w1 ⟨rfl, hb1⟩) | fail)
        go_ret
        exact ⟨⟨i, by omega, HALL.out, .inr ⟨hix, HK.out, rfl⟩⟩, HB.out.trans (hb1.mono HB.out.size)⟩
      · rw [hk] at HC
        have HK := Lib.hid hk
        clear hk
        go_wp2_with (first | (refine wpList_load8 rfl _ rfl g (i * 8) rfl xs[i] HL.out ?_) | (go_at_call 86; refine HC.out.mono ?_; rintro e w1 ⟨rfl, hb1⟩) | fail)
        go_roundg (m - (i + 1))
        case measure => omega
        case rel => exact ⟨i + 1, by omega, by go_num, fun t h ht => by
          rcases Nat.lt_or_ge t i with h1 | h1
          · exact HALL.out t h h1
          · obtain rfl : t = i := by omega
            exact HK.out, HB.out.trans (hb1.mono HB.out.size)⟩
    · obtain rfl : i = m := by omega
      have hii : ¬ (i : Int) < (i : Int) := by omega
      go_wp2
      go_ret
      exact ⟨⟨i, by rw [HM.out]; exact Nat.le_refl _, HALL.out, .inl ⟨HM.out.symm, rfl⟩⟩, HB.out⟩
end Go.Proofs.Ytnoepobbecobbaa
