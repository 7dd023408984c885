/- sortDigits: a slice of rows of its own is sorted. -/
import Derived.Test.YtapcfojnljnoaaaGreatSK
namespace Go.Proofs.YtapcfojnljnoaaaGreat
open Go.RowKit
open Go.Sort (SWO grow alloc_eq_grow grow_grow HoldsK flatK putRowK size_flatK get_flatK putCells putRow)
set_option linter.unusedSimpArgs false
set_option linter.unusedVariables false

set_option maxRecDepth 100000 in
theorem slice_all8 (b : Nat) : ∀ W, (Instr.sliceAt 70 (.pointer (some ⟨b, 0, none⟩)) none none none).run Tryz.prog W = .ok (.slice (some ⟨b, 0, none⟩) 8 8) W := by
  intro W
  have hA : Tryz.prog.arrayLen 70 = 8 := by kernel_rfl
  rw [run_sliceAt_array_all W _ _ Tryz.underlying70]
  have hs : (sizeOf (Tryz.prog.elem 70)).run Tryz.prog W = .ok 1 W := by kernel_rfl
  rw [hs, hA]
  simp [Result.andThen, slicedAt, Addr.add]

set_option maxRecDepth 100000 in
set_option maxHeartbeats 1000000 in
theorem closureCmp_any (f g : Nat → Nat) (hf : ∀ i, f i < 256) (hg : ∀ i, g i < 256) (W : World) :
    Calls Tryz.prog 68 #[.agg (dig8 f), .agg (dig8 g)] W fun e w' => e = .returned (.int .i64 (cmp8 f g)) ∧ ∃ q os', w' = grow (W.drewN q) os' := by
  have hr1 := (RowAt.new W 70 (dig8 f)).push (.cells (dig8 g) 70)
  have hr2 := RowAt.new (W.alloc (.cells (dig8 f) 70)) 70 (dig8 g)
  have HCALL : Hid (∀ q, Calls Tryz.prog 69 #[.slice (some ⟨W.heap.size, 0, none⟩) 8 8, .slice (some ⟨W.heap.size + 1, 0, none⟩) 8 8] (((W.alloc (.cells (dig8 f) 70)).alloc (.cells (dig8 g) 70)).drewN q) fun e w' => e = .returned (.int .i64 (cmp8 f g)) ∧ w' = ((W.alloc (.cells (dig8 f) 70)).alloc (.cells (dig8 g) 70)).drewN q) := Lib.hid (fun q => bytesCompare_any f g hf hg _ _ 8 8 _ (fun i hi => hr1.cell i (dig8_get f i hi)) (fun i hi => by
    have := hr2.cell i (dig8_get g i hi)
    simpa using this))
  have s1 := slice_all8 W.heap.size
  have s2 := slice_all8 (W.heap.size + 1)
  generalize cmp8 f g = r at *
  clear hr1 hr2
  go_enter Tryz.func68, Tryz.ntmps68
  go_wp2
  go_quiet ((go_at_call 69; exact Calls.quiet_of_same (HCALL.out _)))
  go_wp2
  go_ret
  exact ⟨rfl, _, _, by rw [alloc_eq_grow, alloc_eq_grow, grow_grow]; rfl⟩

/-- a row with its proof -/
structure RowN (n : Nat) where
  f : Nat → Nat
  row : IsRow n f
def mkRows {n : Nat} : ∀ (fs : List (Nat → Nat)), Rows n fs → List (RowN n)
  | [], _ => []
  | f :: t, h => ⟨f, h.head⟩ :: mkRows t h.tail
theorem mkRows_map {n : Nat} : ∀ (fs : List (Nat → Nat)) (h : Rows n fs), (mkRows fs h).map (·.f) = fs
  | [], _ => rfl
  | f :: t, h => by simp [mkRows, mkRows_map t h.tail]
theorem RowN.ext' {n : Nat} {x y : RowN n} (h : x.f = y.f) : x = y := by cases x; cases y; simp at h; subst h; rfl
def cfN (n : Nat) (x y : RowN n) : Int := cmp8 x.f y.f
theorem ltN {n : Nat} (x y : RowN n) : Go.Proofs.ltOf (cfN n) x y = ltF n x.f y.f := by
  unfold Go.Proofs.ltOf cfN cmp8 ltF
  have h1 := key8_lt x.row y.row
  have h2 := key8_lt y.row x.row
  by_cases h : key8 x.f < key8 y.f
  · rw [if_pos h, decide_eq_true (h1.1 h)]; rfl
  · rw [if_neg h, decide_eq_false (fun e => h (h1.2 e))]
    by_cases h' : key8 y.f < key8 x.f
    · rw [if_pos h']; rfl
    · rw [if_neg h']; rfl
theorem swoN (n : Nat) : SWO (Go.Proofs.ltOf (cfN n)) where
  irrefl x := by rw [ltN]; simp [ltF]
  trans x y z h1 h2 := by rw [ltN] at *; simp [ltF] at *; omega
  ntrans x y z h1 h2 := by rw [ltN] at *; simp [ltF] at *; omega
theorem totN (n : Nat) (x y : RowN n) (h1 : Go.Proofs.ltOf (cfN n) x y = false) (h2 : Go.Proofs.ltOf (cfN n) y x = false) : x = y := by
  rw [ltN] at h1 h2
  simp [ltF] at h1 h2
  exact RowN.ext' (rowKey_inj x.row y.row (by omega))
theorem sorted_rows {n : Nat} (xs : List (RowN n)) : (xs.mergeSort fun x y => !(Go.Proofs.ltOf (cfN n)) y x).map (·.f) = sortF n (xs.map (·.f)) := by
  have hr : Rows n (xs.map (·.f)) := fun f hf => by
    obtain ⟨x, _, rfl⟩ := List.mem_map.1 hf
    exact x.row
  refine sortF_unique hr ((List.mergeSort_perm xs _).map _) ?_
  have hp := List.pairwise_mergeSort (le := fun x y : RowN n => !(Go.Proofs.ltOf (cfN n)) y x) (fun a b c h1 h2 => by
    simp only [ltN, ltF] at *
    simp at *
    omega) (fun a b => by
    simp only [ltN, ltF]
    simp
    omega) xs
  refine List.pairwise_map.2 (hp.imp ?_)
  intro a b h
  simp only [ltN, ltF] at h
  simpa using h

theorem flat_get {fs : List (Nat → Nat)} {t : Nat} (h : t < fs.length * 8) : (flat fs)[t]? = (cells8 (fs[t / 8]'(by omega)))[t % 8]? := by
  have h8 : t % 8 < 8 := Nat.mod_lt _ (by omega)
  have hi : t / 8 < fs.length := by omega
  obtain ⟨u, hu⟩ : ∃ u, (cells8 fs[t / 8])[t % 8]? = some u := ⟨_, List.getElem?_eq_getElem (show t % 8 < (cells8 fs[t / 8]).length from h8)⟩
  have := flat_at fs (t / 8) hi (t % 8) u hu
  rw [show t / 8 * 8 + t % 8 = t by omega] at this
  rw [this, hu]
def encN {n : Nat} (x : RowN n) : List Value := cells8 x.f
theorem flat_flatK {n : Nat} [Inhabited (RowN n)] (xs : List (RowN n)) : (flatK encN 8 xs.toArray).toList = flat (xs.map (·.f)) := by
  apply List.ext_getElem?
  intro t
  by_cases ht : t < xs.length * 8
  · rw [flat_get (by simpa using ht)]
    have hg := get_flatK (encN (n := n)) 8 xs.toArray t (by simpa using ht)
    have hsz : t < (flatK (encN (n := n)) 8 xs.toArray).size := by rw [size_flatK]; simpa using ht
    have h8 : t % 8 < 8 := Nat.mod_lt _ (by omega)
    have hi : t / 8 < xs.length := by omega
    rw [Array.getElem?_toList, Array.getElem?_eq_getElem hsz, ← getElem!_pos _ t hsz, hg]
    have e1 : xs.toArray[t / 8]! = xs[t / 8] := by simp [hi]
    rw [e1]
    have e2 : t % 8 < (encN xs[t / 8]).length := h8
    rw [getElem!_pos (encN xs[t / 8]) (t % 8) e2]
    simp [encN, cells8_len, h8]
  · rw [List.getElem?_eq_none (by simp; omega), List.getElem?_eq_none (by rw [flat_len]; simp; omega)]

theorem sortDigits_any (n : Nat) (fs : List (Nat → Nat)) (hr : Rows n fs) (hl : fs.length ≤ 1000) (B : Nat) (v : Value) (w : World) (hB : B ≤ w.heap.size) (h : NewD B w v fs) :
    Calls Tryz.prog 67 #[v, .func (.func 68) #[] #[]] w fun e w' => e = .returned (.tuple #[]) ∧ NewD B w' v (sortF n fs) ∧ Below B w w' := by
  obtain ⟨h1, h2⟩ := h
  rcases h2 with ⟨rfl, h0⟩ | ⟨g, cap, cur, rfl, hBg, hb, hle, hcap, hsz, ht⟩
  · have h00 : fs = [] := List.eq_nil_of_length_eq_zero h0
    subst h00
    have hc := AnyF.slices_SortFunc_none (P := Tryz.prog) laysSF none 0 (.func (.func 68) #[] #[]) w
    refine hc.mono ?_
    rintro e w' ⟨rfl, rfl⟩
    rw [show sortF n [] = [] from sortF_short hr (by simp)]
    exact ⟨rfl, NewD.nil _ _, Below.refl _ _⟩
  · rcases Nat.eq_zero_or_pos fs.length with hz | hz
    · have h00 : fs = [] := List.eq_nil_of_length_eq_zero hz
      subst h00
      have hc := AnyF.slices_SortFunc_none (P := Tryz.prog) laysSF (some ⟨g, 0, none⟩) cap (.func (.func 68) #[] #[]) w
      refine hc.mono ?_
      rintro e w' ⟨rfl, rfl⟩
      rw [show sortF n [] = [] from sortF_short hr (by simp)]
      exact ⟨rfl, ⟨h1, .inr ⟨g, cap, cur, rfl, hBg, hb, hle, hcap, hsz, ht⟩⟩, Below.refl _ _⟩
    · obtain ⟨f0, hf0⟩ : ∃ f, f ∈ fs := ⟨fs[0], List.getElem_mem hz⟩
      letI : Inhabited (RowN n) := ⟨⟨f0, hr f0 hf0⟩⟩
      have hg : g < w.heap.size := (Array.getElem?_eq_some_iff.1 hb).1
      have hmap := mkRows_map fs hr
      generalize hxs : mkRows fs hr = xs at hmap
      have hxl : xs.length = fs.length := by rw [← hmap]; simp
      have hH : HoldsK (encN (n := n)) 8 w g 0 xs.toArray := by
        intro j hj
        rw [size_flatK] at hj
        have hj' : j < fs.length * 8 := by rw [← hxl]; simpa using hj
        refine ⟨?_, frozen_of_row w g _ _ _ hb⟩
        rw [Nat.zero_add]
        refine (cell_of_row w g j _ _ _ hb).trans ?_
        have e1 : (cur.toList.take (fs.length * 8))[j]? = (flat fs)[j]? := by rw [ht]
        rw [List.getElem?_take_of_lt hj', Array.getElem?_toList] at e1
        rw [e1, ← hmap, ← flat_flatK, Array.getElem?_toList, Array.getElem?_eq_getElem (by rw [size_flatK]; exact hj), ← getElem!_pos]
        rfl
      have eg : ∀ args w, (callFunc 68 args).run Tryz.prog w = .ok (.enter 68 args) w := enters_of Tryz.func68 (by kernel_rfl) rfl
      have hc := AnyQ.slices_SortFunc_total (P := Tryz.prog) laysSF 8 Tryz.isAgg70 Tryz.sizeOf70 (encN (n := n)) (fun _ => rfl) (fun x v hv => cells8_one _ v hv) (cfN n) (swoN n) 68 #[] g 0 cap xs.toArray w eg
        (fun m os dk _ x y => by
          have := closureCmp_any x.f y.f x.row.byte y.row.byte (Go.Proofs.sortWorldK (encN (n := n)) 8 w g 0 m dk os)
          unfold encN at this ⊢
          rw [cells8_arr, cells8_arr]
          exact this) hH hg (by simp; omega) (totN n)
      rw [show xs.toArray.size = fs.length by simp [hxl]] at hc
      refine hc.mono ?_
      rintro e w' ⟨rfl, q, os, rfl⟩
      have hs := sorted_rows xs
      rw [hmap] at hs
      generalize xs.toArray.toList.mergeSort (fun x y => !(Go.Proofs.ltOf (cfN n)) y x) = ys at *
      have hs : ys.map (·.f) = sortF n fs := by simpa using hs
      have hyl : ys.length = fs.length := by rw [← sortF_len n fs, ← hs]; simp
      have hheap : (grow (putRow id (Go.Sort.ahead w q) g 0 (flatK (encN (n := n)) 8 ys.toArray)) os).heap[g]? = some (.cells (putCells id 0 (flatK (encN (n := n)) 8 ys.toArray) cur) 70 (0, 0)) := by
        rw [Go.Sort.heap_grow_old _ _ (by simpa using hg)]
        simp [putRow, Go.Sort.mapBlock, Go.Sort.ahead, Array.getElem?_modify, hb, Go.Sort.onCells]
      refine ⟨rfl, ?_, ?_⟩
      · unfold NewD
        rw [sortF_len]
        refine ⟨by rw [flat_len, sortF_len], .inr ⟨g, cap, _, rfl, hBg, hheap, hle, hcap, by simpa [putCells] using hsz, ?_⟩⟩
        rw [← hs, ← flat_flatK]
        apply List.ext_getElem?
        intro j
        by_cases hj : j < fs.length * 8
        · have hjc : j < cur.size := by rw [hsz]; omega
          have hjf : j < (flatK (encN (n := n)) 8 ys.toArray).size := by rw [size_flatK]; simp [hyl]; omega
          rw [List.getElem?_take_of_lt hj, Array.getElem?_toList, Array.getElem?_toList]
          simp [putCells, hjc, hjf]
          simp [hyl, hj]
        · rw [List.getElem?_take_eq_none (by omega), List.getElem?_eq_none (by simp [hyl]; omega)]
      · refine (Below.refl _ _).grown (row := some g) ⟨rfl, rfl, rfl, by unfold Go.Proofs.sortWorldK putRowK; simp, fun k hk hne => ?_⟩ hB (fun k hk => by cases hk; exact hBg)
        show (grow (putRow id (Go.Sort.ahead w q) g 0 _) os).heap[k]? = _
        rw [Go.Sort.heap_grow_old _ _ (by simpa using hk)]
        have : g ≠ k := fun e => hne (by rw [e])
        simp [putRow, Go.Sort.mapBlock, Go.Sort.ahead, Array.getElem?_modify, this]
end Go.Proofs.YtapcfojnljnoaaaGreat
