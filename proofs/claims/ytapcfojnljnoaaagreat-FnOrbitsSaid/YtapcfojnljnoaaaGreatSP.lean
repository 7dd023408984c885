/- The products of rows, found row by row, in the program. -/
import Derived.Test.YtapcfojnljnoaaaGreatSN
import Derived.Test.YtapcfojnljnoaaaGreatSO
namespace Go.Proofs.YtapcfojnljnoaaaGreat
open Go.RowKit
set_option linter.unusedSimpArgs false
set_option linter.unusedVariables false

/-- a map of its own with these rows, or none -/
def SetAny (n : Nat) (r : Option (List (Nat → Nat))) (w : World) (e : Ending) (w' : World) : Prop :=
  match r with
  | some G => ∃ b, e = .returned (.tuple #[.map (some b), .bool true]) ∧ w.heap.size ≤ b ∧ SetAt w' n b G ∧ Below w.heap.size w w'
  | none => e = .returned (.tuple #[.map none, .bool false]) ∧ Below w.heap.size w w'
/-- a map's block is no slice's -/
theorem QueD.apartMap {B n b : Nat} {W : World} {v : Value} {fs S : List (Nat → Nat)} (h : QueD B W v fs) (hs : SetAt W n b S) : v.ownBlock ≠ some b := by
  obtain ⟨g, off, cap, cur, rfl, hB, hb, _⟩ := h
  obtain ⟨_, _, es, ⟨xs, clock, h3, _⟩, _⟩ := hs
  intro e
  have e : g = b := by simpa [Value.ownBlock] using e
  subst e
  rw [hb] at h3
  cases h3
theorem QueD.view {B : Nat} {W : World} {v : Value} {fs : List (Nat → Nat)} {m : Nat} (h : QueD B W v fs) (hm : fs.length = m) : ∃ g off cap, v = .slice (some ⟨g, off, none⟩) m cap ∧ m ≤ cap := by
  obtain ⟨g, off, cap, cur, rfl, hB, hb, hle, _⟩ := h
  subst hm
  exact ⟨g, off, cap, rfl, hle⟩
theorem SetAt.keptBut {W W' : World} {n b : Nat} {S : List (Nat → Nat)} {v : Value} (h : SetAt W n b S) (hk : KeptBut W W' v) (hne : v.ownBlock ≠ some b) : SetAt W' n b S := h.block (hk b h.lt hne)
theorem _root_.Go.RowKit.Below.size1 {wr W : World} {o : Obj} (h : Below (wr.heap.size + 1) (wr.alloc o) W) : wr.heap.size + 1 ≤ W.heap.size := Nat.le_trans (by simp) h.size
theorem new_new8 (w : World) (o : Obj) (cs : Array Value) : RowAt ((w.alloc o).alloc (.cells cs 70)) (w.heap.size + 1) 70 cs := by
  have e : (w.alloc o).heap.size = w.heap.size + 1 := by simp
  have := RowAt.new (w.alloc o) 70 cs
  rw [e] at this
  exact this
theorem SetAt.ne_row {W : World} {n b c : Nat} {S : List (Nat → Nat)} {T : TypeId} {cs : Array Value} (h : SetAt W n b S) (hr : RowAt W c T cs) : b ≠ c := by
  obtain ⟨_, _, es, ⟨xs, clock, h3, _⟩, _⟩ := h
  rintro rfl
  have := h3.symm.trans hr
  cases this
theorem rdf_one (n : Nat) : rowsIn [rdf n] = [rdf n] := by simp [rowsIn, withF]

set_option maxRecDepth 100000 in
set_option maxHeartbeats 1000000 in
theorem products_any (n : Nat) (h3 : 3 ≤ n) (h8 : n ≤ 8) (v : Value) (gens : List (Nat → Nat)) (hg : Rows n gens) (hl : gens.length ≤ 1000) (w : World) (h : Digs w v gens) :
    Calls Tryz.prog 52 #[.int .i64 n, v] w (SetAny n (bfsR n gens) w) := by
  obtain ⟨m, hm⟩ : ∃ m, gens.length = m := ⟨_, rfl⟩
  obtain ⟨a, cap, rfl, hcap, ha⟩ := h
  have ha : 0 < m → ∃ g off, a = some ⟨g, off, none⟩ ∧ g < w.heap.size ∧ ∀ i (h : i < gens.length), w.rangeAt g (off + i * 8) (cells8 gens[i]) := fun h0 => ha (by rw [hm]; exact h0)
  rw [hm] at hl ⊢
  have hl' : (m : Int) ≤ 1000 := by omega
  generalize hres : bfsR n gens = res
  have HA := Lib.hid ha
  have HM := Lib.hid hm
  have HG := Lib.hid hg
  have HRES := Lib.hid hres
  have HRD := Lib.hid (roundsDigits_any n h8)
  have HIR := Lib.hid (isRow_rdf h3 h8)
  clear ha hm hcap hg hres
  go_enter Tryz.func52, Tryz.ntmps52
  go_wp2_with fail
  refine (HRD.out _).mono ?_
  rintro e w1 ⟨rfl, hb1⟩
  have HB1 := Lib.hid (hb1.alloc hb1.size (.cells (dig8 (rdf n)) 70))
  have HQ1 := Lib.hid ((QueD.one w1 (rdf n)).lower hb1.size)
  clear hb1 HRD
  go_wp2_with (first | (refine wpList_build8 rfl _ rfl (rdf n) rfl ?_) | fail)
  refine (rowSetOf_any n _ [rdf n] (fun x hx => by simp at hx; rw [hx]; exact HIR.out) (by simp) _ HQ1.out.digs).mono ?_
  rintro e w2 ⟨b, rfl, hbs, hs2, hb2⟩
  rw [rdf_one] at hs2
  have HB2 := Lib.hid (HB1.out.trans (hb2.mono HB1.out.size))
  have HQ2 := Lib.hid (HQ1.out.kept hb2)
  have HS2 := Lib.hid hs2
  have HBB : Hid (w.heap.size ≤ b) := Lib.hid (Nat.le_trans HB1.out.size hbs)
  clear hs2 hb2 hbs HB1 HQ1
  go_wp2
  go_loopg [6] 802 (fun q wv wr => ∃ (k : Nat) (out : List (Nat → Nat)), q + k = 802 ∧ k ≤ out.length ∧ out.length ≤ 800 ∧ QueD w.heap.size wr wv (out.drop k) ∧ SetAt wr n b out ∧ bfs n gens q k out = res ∧ Below w.heap.size w wr)
  case atStart => exact ⟨0, [rdf n], rfl, by simp, by simp, HQ2.out, HS2.out, HRES.out, HB2.out⟩
  case round =>
    clear HQ2 HS2 HRES HB2 HIR
    obtain ⟨k, out, hq, hk, h800, hqd, hs, hr, hb⟩ := hrel
    obtain ⟨qq, rfl⟩ : ∃ q', gk = q' + 1 := ⟨gk - 1, by omega⟩
    have HQQ := Lib.hid hq
    have HQ := Lib.hid hqd
    have HS := Lib.hid hs
    have HB := Lib.hid hb
    have HL8 := Lib.hid h800
    unfold bfs at hr
    obtain ⟨gq, oq, cq, rfl, hcq⟩ := hqd.view (m := out.length - k) (by simp)
    clear hq hqd hs hb h800
    by_cases hlt : k < out.length
    · rw [dif_pos hlt] at hr
      have hdrop := List.drop_eq_getElem_cons hlt
      generalize hf0 : out[k] = f0 at *
      have HR := Lib.hid hr
      have hf0r : IsRow n f0 := by rw [← hf0]; exact HS.out.rows _ (List.getElem_mem hlt)
      have HF0 := Lib.hid hf0r
      have HLT := Lib.hid hlt
      obtain ⟨nq, hnq⟩ : ∃ k', out.length - k = k' := ⟨_, rfl⟩
      rw [hnq] at HQ hcq ⊢
      have hpos : (0 : Int) < (nq : Int) := by omega
      have HDR := Lib.hid hdrop
      have HF0E : Hid (∀ t, (out ++ t)[k]? = some f0) := Lib.hid (fun t => by rw [List.getElem?_append_left hlt, List.getElem?_eq_getElem hlt, hf0])
      clear hr hdrop hf0r hlt hnq hf0
      go_wp2
      clear hpos
      generalize decide (0 < nq) = bq
      go_loopg [6, 21] m (fun q wv i wr => ∃ (j : Nat) (o2 t2 : List (Nat → Nat)), q + j = m ∧ i = .int .i64 j ∧ o2 = out ++ t2 ∧ o2.length ≤ out.length + j ∧ QueD w.heap.size wr wv (o2.drop k) ∧ SetAt wr n b o2 ∧ stepF n f0 (gens.drop j) o2 = stepF n f0 gens out ∧ Below w.heap.size w wr)
      case atStart => exact ⟨0, out, [], by omega, rfl, by simp, by omega, HQ.out, HS.out, rfl, HB.out⟩
      case round =>
        clear HQ HS HB
        obtain ⟨j, o2, t2, hq, rfl, ho2, hl2, hqd, hs, hst, hb⟩ := hrel
        have HQI := Lib.hid hq
        have HQ := Lib.hid hqd
        have HS := Lib.hid hs
        have HB := Lib.hid hb
        have HST := Lib.hid hst
        have HL2 := Lib.hid hl2
        have HO2 := Lib.hid ho2
        have hko : k < o2.length := by rw [ho2, List.length_append]; have := HLT.out; omega
        have hd2 : o2.drop k = f0 :: o2.drop (k + 1) := by
          rw [List.drop_eq_getElem_cons hko]
          congr 1
          have := HF0E.out t2
          rw [← ho2, List.getElem?_eq_getElem hko] at this
          exact Option.some.inj this
        obtain ⟨g0, o0, c0, rfl, hc0⟩ := hqd.view (m := o2.length - k) (by simp)
        have hdig := hqd.digs
        obtain ⟨n2, hn2⟩ : ∃ k', o2.length - k = k' := ⟨_, rfl⟩
        have hn2p : 0 < n2 := by omega
        have hn2i : (0 : Int) < (n2 : Int) := by omega
        have hg0 : g0 < wr.heap.size := (hqd.lt g0 rfl).2
        have hl0 : ∀ i, i < 8 → wr.cell? ⟨g0, o0 + i, none⟩ = some (.int .u8 (f0 i)) := fun i hi => by
          obtain ⟨a', cap', e1, _, hcc⟩ := hdig
          obtain ⟨g', off', e2, _, hc⟩ := hcc (by rw [hd2]; simp)
          injection e1 with e1
          rw [← e1] at e2
          injection e2 with e2
          injection e2 with e2 e3
          subst e2 e3
          have := hc 0 (by rw [hd2]; simp) i (.int .u8 (f0 i)) (by
            simp only [hd2, List.getElem_cons_zero]
            have := dig8_get f0 i hi
            rw [← Array.getElem?_toList] at this
            exact this)
          rwa [Nat.zero_mul, Nat.add_zero] at this
        rw [hn2] at HQ hc0 ⊢
        have HL0 := Lib.hid hl0
        have HD2 := Lib.hid hd2
        clear hq hqd hs hb hst hl2 hl0 hdig hd2 ho2 hko hn2
        by_cases hlt : j < m
        · obtain ⟨gb, off, rfl, hgb, hc⟩ := HA.out (by omega)
          have hjx : j < gens.length := by rw [HM.out]; exact hlt
          have hrow := HG.out _ (List.getElem_mem hjx)
          have hload := hc j hjx
          have hst := HST.out
          rw [List.drop_eq_getElem_cons hjx, stepF_cons] at hst
          generalize gens[j] = x at *
          have HL : Hid (wr.rangeAt gb (off + j * 8) (cells8 x)) := Lib.hid (fun k u hu => (HB.out.cell (p := ⟨gb, off + j * 8 + k, none⟩) hgb).trans (hload k u hu))
          have hji : (j : Int) < m := by omega
          have HT := Lib.hid (times_row n f0 x HF0.out hrow)
          have HYR := Lib.hid (isRow_mul HF0.out hrow)
          have HST2 := Lib.hid hst
          generalize mulR n f0 x = y at *
          have HXX := Lib.hid (RowAt.new wr 70 (dig8 x))
          have HSK : Hid (∀ w', Below (wr.heap.size + 1) (wr.alloc (.cells (dig8 x) 70)) w' → (w'.cell? ⟨g0, o0, none⟩ = some (.int .u8 (f0 0)) ∧ w'.cell? ⟨g0, o0 + 1, none⟩ = some (.int .u8 (f0 1)) ∧ w'.cell? ⟨g0, o0 + 2, none⟩ = some (.int .u8 (f0 2)) ∧ w'.cell? ⟨g0, o0 + 3, none⟩ = some (.int .u8 (f0 3)) ∧ w'.cell? ⟨g0, o0 + 4, none⟩ = some (.int .u8 (f0 4)) ∧ w'.cell? ⟨g0, o0 + 5, none⟩ = some (.int .u8 (f0 5)) ∧ w'.cell? ⟨g0, o0 + 6, none⟩ = some (.int .u8 (f0 6)) ∧ w'.cell? ⟨g0, o0 + 7, none⟩ = some (.int .u8 (f0 7)) ∧ w'.cell? ⟨wr.heap.size, 0, none⟩ = some (.int .u8 (x 0)) ∧ w'.cell? ⟨wr.heap.size, 1, none⟩ = some (.int .u8 (x 1)) ∧ w'.cell? ⟨wr.heap.size, 2, none⟩ = some (.int .u8 (x 2)) ∧ w'.cell? ⟨wr.heap.size, 3, none⟩ = some (.int .u8 (x 3)) ∧ w'.cell? ⟨wr.heap.size, 4, none⟩ = some (.int .u8 (x 4)) ∧ w'.cell? ⟨wr.heap.size, 5, none⟩ = some (.int .u8 (x 5)) ∧ w'.cell? ⟨wr.heap.size, 6, none⟩ = some (.int .u8 (x 6)) ∧ w'.cell? ⟨wr.heap.size, 7, none⟩ = some (.int .u8 (x 7)) ∧ Below (wr.heap.size + 1) (wr.alloc (.cells (dig8 x) 70)) w')) := Lib.hid (fun w' h => by
            have hx := HXX.out.keep h (by omega)
            have h0 : ∀ i, i < 8 → w'.cell? ⟨g0, o0 + i, none⟩ = some (.int .u8 (f0 i)) := fun i hi =>
              ((h.cell (p := ⟨g0, o0 + i, none⟩) (show g0 < wr.heap.size + 1 by omega)).trans ((((Below.refl _ wr).alloc (Nat.le_refl _) (.cells (dig8 x) 70)).cell (p := ⟨g0, o0 + i, none⟩) hg0))).trans (HL0.out i hi)
            exact ⟨h0 0 (by omega), h0 1 (by omega), h0 2 (by omega), h0 3 (by omega), h0 4 (by omega), h0 5 (by omega), h0 6 (by omega), h0 7 (by omega), hx.cell 0 rfl, hx.cell 1 rfl, hx.cell 2 rfl, hx.cell 3 rfl, hx.cell 4 rfl, hx.cell 5 rfl, hx.cell 6 rfl, hx.cell 7 rfl, h⟩)
          clear hc hload hst HST hrow
          go_wp2_with (first | (refine wpList_store_row rfl 70 _ _ rfl _ _ rfl rfl 70 _ (heap_at _ _ _ (by simp)) (by kernel_rfl) rfl (by kernel_rfl) ?_; rw [setRow_at _ _ _ _ _ (by simp)]) | (refine wpList_load8 rfl _ rfl gb (off + j * 8) rfl x HL.out ?_) | fail)
          have HXB : Hid (∀ W, Below (wr.heap.size + 1) (wr.alloc (.cells (dig8 x) 70)) W → Below wr.heap.size wr W) := Lib.hid (fun W h => ((Below.refl _ wr).alloc (Nat.le_refl _) _).trans (h.mono (by omega)))
          have HW0 : Hid (Below (wr.heap.size + 1) (wr.alloc (.cells (dig8 x) 70)) (wr.alloc (.cells (dig8 x) 70)).drew) := Lib.hid (Below.refl _ _).drew
          have HW1 : Hid (Below (wr.heap.size + 1) (wr.alloc (.cells (dig8 x) 70)) ((wr.alloc (.cells (dig8 x) 70)).alloc (.cells #[.int .u8 0, .int .u8 0, .int .u8 0, .int .u8 0, .int .u8 0, .int .u8 0, .int .u8 0, .int .u8 0] 70)).drew) := Lib.hid ((Below.refl _ _).alloc (by simp) _).drew
          have HR1 : Hid (RowAt ((wr.alloc (.cells (dig8 x) 70)).alloc (.cells #[.int .u8 0, .int .u8 0, .int .u8 0, .int .u8 0, .int .u8 0, .int .u8 0, .int .u8 0, .int .u8 0] 70)).drew (wr.heap.size + 1) 70 zero8) := Lib.hid (new_new8 wr (.cells (dig8 x) 70) zero8)
          go_region_held3 (fun w' => w'.cell? ⟨g0, o0, none⟩ = some (.int .u8 (f0 0)) ∧ w'.cell? ⟨g0, o0 + 1, none⟩ = some (.int .u8 (f0 1)) ∧ w'.cell? ⟨g0, o0 + 2, none⟩ = some (.int .u8 (f0 2)) ∧ w'.cell? ⟨g0, o0 + 3, none⟩ = some (.int .u8 (f0 3)) ∧ w'.cell? ⟨g0, o0 + 4, none⟩ = some (.int .u8 (f0 4)) ∧ w'.cell? ⟨g0, o0 + 5, none⟩ = some (.int .u8 (f0 5)) ∧ w'.cell? ⟨g0, o0 + 6, none⟩ = some (.int .u8 (f0 6)) ∧ w'.cell? ⟨g0, o0 + 7, none⟩ = some (.int .u8 (f0 7)) ∧ w'.cell? ⟨wr.heap.size, 0, none⟩ = some (.int .u8 (x 0)) ∧ w'.cell? ⟨wr.heap.size, 1, none⟩ = some (.int .u8 (x 1)) ∧ w'.cell? ⟨wr.heap.size, 2, none⟩ = some (.int .u8 (x 2)) ∧ w'.cell? ⟨wr.heap.size, 3, none⟩ = some (.int .u8 (x 3)) ∧ w'.cell? ⟨wr.heap.size, 4, none⟩ = some (.int .u8 (x 4)) ∧ w'.cell? ⟨wr.heap.size, 5, none⟩ = some (.int .u8 (x 5)) ∧ w'.cell? ⟨wr.heap.size, 6, none⟩ = some (.int .u8 (x 6)) ∧ w'.cell? ⟨wr.heap.size, 7, none⟩ = some (.int .u8 (x 7)) ∧ Below (wr.heap.size + 1) (wr.alloc (.cells (dig8 x) 70)) w') (first | exact HSK.out _ (by with_reducible exact HW0.out) | exact HSK.out _ (by with_reducible exact HW1.out) | exact HSK.out _ (by with_reducible exact hb5) | exact HSK.out _ (by with_reducible exact (hb5.alloc hsz5 _)) | exact HSK.out _ (by with_reducible exact (below_setRow hb5 (Nat.le_refl _) _))) (first | (go_at_call 62; refine (HT.out _).mono ?_; rintro e5 w5 ⟨rfl, hbb5⟩; have hb5 : Below (wr.heap.size + 1) (wr.alloc (.cells (dig8 x) 70)) w5 := (by first | exact HW0.out.trans (hbb5.mono (by simp)) | exact HW1.out.trans (hbb5.mono (by first | (simp; done) | (simp; omega)))); have hsz5 : wr.heap.size + 1 ≤ w5.heap.size := hb5.size1; have hS5 := HSK.out _ hb5; have hst5 := store_new8 w5 y; (try have hr5 := HR1.out.kept hbb5); (try have hst6 := store_row8 w5 _ _ hr5 rfl y)) | fail)
          all_goals
            first
              | (have hy8 := hr5.row (dig8 y); have hb8 := HXB.out _ (below_setRow hb5 (Nat.le_refl _) (dig8 y)); clear hst5 hst6 hr5; clear hS5 hb5 hbb5 hsz5 HW0 HW1 HR1 HSK HXX HXB; generalize w5.setRow (wr.heap.size + 1) (dig8 y) = W8 at *; generalize wr.heap.size + 1 = pb at *)
              | (have hy8 := RowAt.new w5 70 (dig8 y); have hb8 := HXB.out _ (hb5.alloc hsz5 (.cells (dig8 y) 70)); clear hst5; clear hS5 hb5 hbb5 hsz5 HW0 HW1 HR1 HSK HXX HXB; generalize w5.alloc (.cells (dig8 y) 70) = W8 at *; generalize w5.heap.size = pb at *)
            have HY8 := Lib.hid hy8
            have HS8 := Lib.hid (HS.out.kept hb8)
            have HQ8 := Lib.hid (HQ.out.kept hb8)
            have HB8 := Lib.hid (HB.out.trans (hb8.mono HB.out.size))
            clear hy8 hb8 HL HT HL0
            cases hin : inB y o2
            · have hout := inB_no.1 hin
              have HW := Lib.hid (with_new hout)
              have hmx : o2.length < maxLen := by unfold maxLen; have h1 := HL2.out; have h2 := HL8.out; omega
              have hpbne : pb ≠ b := fun e => HS8.out.ne_row (HY8.out) e.symm
              have HAP := Lib.hid (HQ8.out.apartMap HS8.out)
              clear hout
              go_wp2_with (first | (refine wpList_load_row rfl 70 _ rfl _ rfl 70 _ _ _ (HY8.out) Tryz.underlying70 rfl (by kernel_rfl) ?_) | (at_lookup; refine wpList_look_row rfl _ _ rfl n b o2 y HYR.out HS8.out rfl rfl ?_; rw [hin]) | (at_mapUpdate; refine wpList_put_row rfl _ _ _ rfl n b o2 y HYR.out HS8.out hmx rfl rfl rfl ?_) | fail)
              intro w9 hs9 hg9
              rw [HW.out] at hs9
              have HS9 := Lib.hid hs9
              have HY9 : Hid (RowAt w9 pb 70 (dig8 y)) := Lib.hid ((hg9.block pb HY8.out.lt (by simpa using hpbne)).trans HY8.out)
              have HQ9 := Lib.hid (HQ8.out.besides hg9 (.inl HAP.out))
              have HB9 := Lib.hid (HB8.out.grown hg9 HB8.out.size (fun k hk => by cases hk; exact HBB.out))
              have hl9 : (o2.drop k).length ≤ 100000 := by rw [List.length_drop]; have h1 := HL2.out; have h2 := HL8.out; omega
              clear hs9 hg9 HS8 HY8 HQ8 HB8
              go_wp2_with (first | (refine wpList_load_row rfl 70 _ rfl _ rfl 70 _ _ _ (HY9.out) Tryz.underlying70 rfl (by kernel_rfl) ?_) | (refine wpList_build8 rfl _ rfl y rfl ?_) | (at_builtin; refine wpList_appQ rfl (.tmp 36) (.tmp 38) rfl w.heap.size w.heap.size (Nat.le_refl _) _ (o2.drop k) y rfl HQ9.out rfl HB9.out.size HB9.out hl9 ?_) | fail)
              intro v10 w10 hq10 hk10 hb10 _ _
              have HQ10 := Lib.hid hq10
              have HB10 := Lib.hid hb10
              have HS10 := Lib.hid (HS9.out.keptBut hk10 (HQ9.out.apartMap HS9.out))
              obtain ⟨g10, o10, c10, rfl, -⟩ := hq10.view rfl
              clear hq10 hk10 hb10 HS9 HY9 HQ9 HB9
              go_wp2
              go_roundg (gk - 1)
              case measure => have := HQI.out; omega
              case rel =>
                refine ⟨j + 1, o2 ++ [y], t2 ++ [y], by have := HQI.out; omega, by go_num, by rw [HO2.out, List.append_assoc], by rw [List.length_append]; have := HL2.out; simp; omega, ?_, HS10.out, ?_, HB10.out⟩
                · have hko : k ≤ o2.length := by rw [HO2.out, List.length_append]; have := HLT.out; omega
                  rw [List.drop_append_of_le_length hko]
                  exact HQ10.out
                · rw [← HW.out]; exact HST2.out
            · have hinn := inB_iff.1 hin
              have HW := Lib.hid (with_in hinn)
              clear hinn
              go_wp2_with (first | (refine wpList_load_row rfl 70 _ rfl _ rfl 70 _ _ _ (HY8.out) Tryz.underlying70 rfl (by kernel_rfl) ?_) | (at_lookup; refine wpList_look_row rfl _ _ rfl n b o2 y HYR.out HS8.out rfl rfl ?_; rw [hin]) | fail)
              go_roundg (gk - 1)
              case measure => have := HQI.out; omega
              case rel =>
                exact ⟨j + 1, o2, t2, by have := HQI.out; omega, by go_num, HO2.out, by have := HL2.out; omega, HQ8.out, HS8.out, by have := HST2.out; rwa [HW.out] at this, HB8.out⟩
        · obtain rfl : j = m := by have := HQI.out; omega
          have hst := HST.out
          rw [List.drop_eq_nil_of_le (by rw [HM.out]; exact Nat.le_refl _)] at hst
          have hst : o2 = stepF n f0 gens out := hst
          have hr := HR.out
          rw [← hst] at hr
          have hq2 := HQ.out
          rw [HD2.out] at hq2
          obtain ⟨u, hu, hqu, -⟩ := hq2.tail
          obtain ⟨gu, ou, cu, rfl, -⟩ := hqu.view (m := o2.length - (k + 1)) (by simp)
          have HQU := Lib.hid hqu
          by_cases h8b : 800 < o2.length
          · rw [if_pos h8b] at hr
            have hbi : (800 : Int) < (o2.length : Int) := by omega
            clear hst hq2 hu hqu HQ HD2 HST
            subst hr
            go_wp2_with (first | (at_len; refine wpList_len_rows rfl _ rfl n b o2 HS.out rfl ?_) | fail)
            go_ret2
            exact ⟨rfl, HB.out⟩
          · rw [if_neg h8b] at hr
            have hbi : ¬ (800 : Int) < (o2.length : Int) := by omega
            have HR2 := Lib.hid hr
            have hkl : k + 1 ≤ o2.length := by rw [HO2.out, List.length_append]; have := HLT.out; omega
            clear hst hr hq2 hqu HQ HD2 HST HR
            go_wp2_with (first | (at_len; refine wpList_len_rows rfl _ rfl n b o2 HS.out rfl ?_) | fail)
            go_roundg qq
            case measure => omega
            case rel => exact ⟨k + 1, o2, by have := HQQ.out; omega, hkl, by omega, HQU.out, HS.out, HR2.out, HB.out⟩
    · rw [dif_neg hlt] at hr
      have hnq : out.length - k = 0 := by omega
      rw [hnq]
      subst hr
      clear hnq hlt
      go_wp2
      go_ret2
      exact ⟨b, rfl, HBB.out, HS.out, HB.out⟩
end Go.Proofs.YtapcfojnljnoaaaGreat

