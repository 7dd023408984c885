/- StartAt in the model. -/
import Derived.Test.YtfocnflnpabmkaaD17
import Derived.Deep.RegionHeld3
namespace Go.Proofs.Ytfocnflnpabmkaa
open Go.RowKit
set_option linter.unusedSimpArgs false
set_option linter.unusedVariables false

/-- several elements appended, at a step of a region -/
theorem step_appN {P : Program} {W : World} {ops : Array Oper} {o : Oper} {a : Act} {K : Act → World → Prop} {Q : Exit → Act → World → Prop} {E : Prop} (hgd : o.guard = none) (s x : Operand) (t : TypeId)
    (ho : o.op = .call { callee := .builtin .append, args := #[s, x], argTypes := #[t, t] })
    (e : TypeId) (i : TypeInfo) (z : Value) (bytes : Nat) (ht : P.underlying t = some (.slice e)) (hi : P.info? e = some i) (hz : i.zero = some z)
    (hsize : i.size = 1) (hby : i.bytes = bytes) (hzs : z.cells.size = 1) (B : Nat) (v : Value) (xs : List Value) (hs : a.eval s = v) (hnew : New B W e v xs)
    (ad : Addr) (m c : Nat) (news : List Value) (hx : a.eval x = .slice (some ad) m c) (hl : news.length = m) (hnews : ∀ j u, news[j]? = some u → W.cell? (ad.add j) = some u) (h1 : ∀ u ∈ news, u.oneCell' = true) (hB : B ≤ W.heap.size)
    (hlen : xs.length + m ≤ 100000) (hbytes : bytes ≤ 1000)
    (h : ∀ v' w', New B w' e v' (xs ++ news) → KeptBut W w' v → Below B W w' → K (a.put o.dst v') w') :
    if Region.wanted o (yielded ops a.tmps) = true then Oper.wp P o a W K Q else E := by
  have hw : Region.wanted o (yielded ops a.tmps) = true := by simp [Region.wanted, hgd]
  rw [if_pos hw]
  have hbd : (xs.length + m) * bytes ≤ 140737488355328 := by
    have : (xs.length + m) * bytes ≤ 100000 * 1000 := Nat.mul_le_mul hlen hbytes
    omega
  obtain ⟨v', w', hr, hown, hgrow, hfresh, -⟩ := run_append_block (P := P) W t o.type e i z bytes ht hi hz hsize hby hzs v xs hnew.own ad m c news hl hnews h1 hbd (by unfold maxLen; omega)
  unfold Oper.wp execOp
  simp only [ho, resolve, invoke, builtin, Sem.run_bind, Sem.run_pure, Result.andThen_ok, List.map_toArray, List.map_cons, List.map_nil, hs, hx, hr]
  have hbase : ∀ g, v'.ownBlock = some g → B ≤ g := fun g hg => by
    rcases hfresh g hg with h | h
    · exact hnew.base g h
    · omega
  exact h v' w' ⟨hown, hbase⟩ (fun k hk hne => hgrow.block k hk (fun e => hne e.symm)) ((Below.refl B W).grown hgrow hB (fun g hg => hnew.base g hg))

set_option maxRecDepth 100000 in
set_option maxHeartbeats 1000000 in
theorem l4Start_any (s : ByteArray) (n : Int) (v : Value) (L : List (List Nat)) (k : Nat) (w : World) (h : Txts w v L) (hl : L.length ≤ 40) (hk : k < L.length) :
    Calls Try.prog 66 #[.agg #[.string s, .int .i64 n, v], .int .i64 k] w (MethOut s n (L.drop k ++ L.take k) w) := by
  obtain ⟨a, cap, rfl, hcap, ha⟩ := id h
  obtain ⟨gl, off, rfl, hgl, hcl⟩ := ha (by omega)
  have hs1 := fun W' => slice_l1 gl off L.length cap k hk hcap W'
  have hs2 := fun W' => slice_h1 gl off L.length cap k (by omega) hcap (by omega) W'
  have ht1 : Txts w (.slice (some ⟨gl, off + k, none⟩) (L.length - k) (cap - k)) (L.drop k) := ⟨some ⟨gl, off + k, none⟩, cap - k, by simp, by simp; omega, fun h0 => ⟨gl, off + k, rfl, hgl, fun j hj => by
    simp at hj
    rw [Nat.add_assoc, hcl (k + j) (by omega)]
    simp [List.getD_eq_getElem?_getD]⟩⟩
  have ht2 : Txts w (.slice (some ⟨gl, off, none⟩) k cap) (L.take k) := ⟨some ⟨gl, off, none⟩, cap, by rw [List.length_take, Nat.min_eq_left (by omega)], by rw [List.length_take]; omega, fun h0 => ⟨gl, off, rfl, hgl, fun j hj => by
    have hj2 : j < k := by simp at hj; omega
    rw [hcl j (by omega)]
    simp [List.getD_eq_getElem?_getD, List.getElem?_take, hj2]⟩⟩
  have hx : (L.drop k).length = L.length - k := by simp
  have hy : (L.take k).length = k := by simp; omega
  have HT1 := Lib.hid ht1
  have HT2 := Lib.hid ht2
  have HR0 := Lib.hid ((RowAt.new w 26 #[.string s, .int .i64 n, .slice (some ⟨gl, off, none⟩) L.length cap]).push (.cells zeroM 26))
  have HZ0 : Hid (RowAt ((w.alloc (.cells #[.string s, .int .i64 n, .slice (some ⟨gl, off, none⟩) L.length cap] 26)).alloc (.cells zeroM 26)) (w.heap.size + 1) 26 zeroM) := Lib.hid (by
    have := RowAt.new (w.alloc (.cells #[.string s, .int .i64 n, .slice (some ⟨gl, off, none⟩) L.length cap] 26)) 26 zeroM
    simpa using this)
  have HB0 := Lib.hid (((Below.refl _ w).alloc (Nat.le_refl _) (.cells #[.string s, .int .i64 n, .slice (some ⟨gl, off, none⟩) L.length cap] 26)).alloc (by simp) (.cells zeroM 26))
  obtain ⟨X, hX⟩ : ∃ X, L.drop k = X := ⟨_, rfl⟩
  obtain ⟨Y, hY⟩ : ∃ Y, L.take k = Y := ⟨_, rfl⟩
  rw [hX] at HT1 hx ⊢
  rw [hY] at HT2 hy ⊢
  obtain ⟨m, hm⟩ : ∃ m, L.length = m := ⟨_, rfl⟩
  rw [hm] at HT1 HR0 HZ0 HB0 hk hs1 hs2 hx hl
  rw [hm]
  have HXL := Lib.hid hx
  have HYL := Lib.hid hy
  have hm40 : (m : Int) ≤ 40 := by omega
  have hkm : (k : Int) < m := by omega
  have hk1 : (0 : Int) ≤ k := by omega
  obtain ⟨i0, hi0, hz0, hz1, hz2⟩ := info_parts infoText
  have I0 := Lib.hid (⟨hi0, hz0, hz1, hz2⟩ : _ ∧ _ ∧ _ ∧ _)
  have hone : ∀ u ∈ strs Y, u.oneCell' = true := by
    intro u hu
    simp only [strs, List.mem_map] at hu
    obtain ⟨x, _, rfl⟩ := hu
    rfl
  have HONE := Lib.hid hone
  clear h hcap hm ha hcl ht1 ht2 hX hY hx hy hi0 hz0 hz1 hz2 hone
  go_enter Try.func66, Try.ntmps66
  go_wp2
  have c0 := HR0.out.cell 0 rfl
  have c1 := HR0.out.cell 1 rfl
  have c2 := HR0.out.cell 2 rfl
  have HLT := Lib.hid HR0.out.lt
  generalize hw0 : (w.alloc (.cells #[.string s, .int .i64 n, .slice (some ⟨gl, off, none⟩) m cap] 26)).alloc (.cells zeroM 26) = w0 at *
  try (rw [show (w.alloc (.cells #[.string s, .int .i64 n, .slice (some ⟨gl, off, none⟩) m cap] 26)).alloc (.cells #[.string ⟨#[]⟩, .int .i64 0, .slice none 0 0] 26) = w0 from hw0])
  clear hw0
  have HS : Hid (∀ W', (RowAt W' w.heap.size 26 #[.string s, .int .i64 n, .slice (some ⟨gl, off, none⟩) m cap] ∧ Below w.heap.size w W') → (W'.cell? ⟨w.heap.size, 0, none⟩ = some (.string s) ∧ W'.cell? ⟨w.heap.size, 1, none⟩ = some (.int .i64 n) ∧ W'.cell? ⟨w.heap.size, 2, none⟩ = some (.slice (some ⟨gl, off, none⟩) m cap) ∧ Below w.heap.size w W')) := Lib.hid (fun W' h => ⟨h.1.cell 0 rfl, h.1.cell 1 rfl, h.1.cell 2 rfl, h.2⟩)
  have HS0 : Hid (w0.drew.cell? ⟨w.heap.size, 0, none⟩ = some (.string s) ∧ w0.drew.cell? ⟨w.heap.size, 1, none⟩ = some (.int .i64 n) ∧ w0.drew.cell? ⟨w.heap.size, 2, none⟩ = some (.slice (some ⟨gl, off, none⟩) m cap) ∧ Below w.heap.size w w0.drew) := Lib.hid (HS.out _ ⟨HR0.out.drewN 1, below_drewN HB0.out 1⟩)
  have HOW : Hid (Calls Try.prog 108 #[.slice (some ⟨gl, off + k, none⟩) (m - k) (cap - k)] w0.drew (Copied X w0.drew)) := Lib.hid (l1OwnS_any _ X w0.drew (HT1.out.kept (below_drewN HB0.out 1)) (by rw [HXL.out]; omega))
  unfold Copied at HOW
  go_region_held3 (fun w' => w'.cell? ⟨w.heap.size, 0, none⟩ = some (.string s) ∧ w'.cell? ⟨w.heap.size, 1, none⟩ = some (.int .i64 n) ∧ w'.cell? ⟨w.heap.size, 2, none⟩ = some (.slice (some ⟨gl, off, none⟩) m cap) ∧ Below w.heap.size w w') (first | assumption | exact HS0.out | exact HSZ.out) (first
    | (go_at_call 108; refine HOW.out.mono ?_; rintro e5 w5 ⟨v5, rfl, hn5, hb5⟩; obtain ⟨a5, k5, hv5, -⟩ := hn5.own.view; rw [strs_len] at hv5; subst hv5; have HR5 := Lib.hid ((HR0.out.drewN 1).kept hb5); have HZ5 := Lib.hid ((HZ0.out.drewN 1).kept hb5); have HB5 := Lib.hid ((below_drewN HB0.out 1).trans (hb5.mono (below_drewN HB0.out 1).size)); have HN5 := Lib.hid (hn5.lower (B' := w.heap.size) (below_drewN HB0.out 1).size); have hS5 := HS.out _ ⟨HR5.out, HB5.out⟩)
    | (refine step_appN rfl (.tmp 13) (.tmp 17) 24 rfl 9 i0 (.string ⟨#[]⟩) 16 Try.underlying24 I0.out.1 I0.out.2.1 I0.out.2.2.1 I0.out.2.2.2 rfl w.heap.size _ (strs X) rfl HN5.out ⟨gl, off, none⟩ k cap (strs Y) rfl (by rw [strs_len, HYL.out]) (news_of (by rw [HYL.out]; exact HT2.out.kept HB5.out)) HONE.out HB5.out.size (by rw [strs_len, HXL.out]; omega) (by omega) ?_; intro v6 w6 hn6 hk6 hb6; obtain ⟨a6, k6, hv6, -⟩ := hn6.own.view; rw [List.length_append, strs_len, strs_len] at hv6; subst hv6; have HR6 := Lib.hid (hk6.row HR5.out (HN5.out.apartRow HR5.out (by decide))); have HZ6 := Lib.hid (hk6.row HZ5.out (HN5.out.apartRow HZ5.out (by decide))); have HB6 := Lib.hid (HB5.out.trans hb6); have HN6 := Lib.hid hn6; have hS6 := HS.out _ ⟨HR6.out, HB6.out⟩; have z0 := HZ6.out.cell 0 rfl; have z1 := HZ6.out.cell 1 rfl; have z2 := HZ6.out.cell 2 rfl; have f0 := HZ6.out.free 0; have f1 := HZ6.out.free 1; have f2 := HZ6.out.free 2; have HSZ := Lib.hid (HS.out _ ⟨((HR6.out.other ⟨w.heap.size + 1, 0, none⟩ (.string s) (by show w.heap.size ≠ w.heap.size + 1; omega)).other ⟨w.heap.size + 1, 1, none⟩ (.int .i64 n) (by show w.heap.size ≠ w.heap.size + 1; omega)).other ⟨w.heap.size + 1, 2, none⟩ (.slice a6 (X.length + Y.length) k6) (by show w.heap.size ≠ w.heap.size + 1; omega), ((HB6.out.setCell (p := ⟨w.heap.size + 1, 0, none⟩) (by show w.heap.size ≤ w.heap.size + 1; omega) (.string s)).setCell (p := ⟨w.heap.size + 1, 1, none⟩) (by show w.heap.size ≤ w.heap.size + 1; omega) (.int .i64 n)).setCell (p := ⟨w.heap.size + 1, 2, none⟩) (by show w.heap.size ≤ w.heap.size + 1; omega) (.slice a6 (X.length + Y.length) k6)⟩))
    | fail)
  have HF := Lib.hid (((HZ6.out.set 0 (.string s)).set 1 (.int .i64 n)).set 2 (.slice a6 (X.length + Y.length) k6))
  have hap := HN6.out.apartRow HZ6.out (by decide)
  have HNF := Lib.hid (((HN6.out.setOther (w.heap.size + 1) 0 (.string s) hap).setOther (w.heap.size + 1) 1 (.int .i64 n) hap).setOther (w.heap.size + 1) 2 (.slice a6 (X.length + Y.length) k6) hap)
  rw [show strs X ++ strs Y = strs (X ++ Y) by simp [strs]] at HNF
  have HBF := Lib.hid HSZ.out.2.2.2
  clear hS5 hS6 HSZ HR6 HZ6 HB6 HN6 HR5 HZ5 HB5 HN5 hn5 hb5 hn6 hk6 hb6 z0 z1 z2 f0 f1 f2 HOW HS0 HS hap hs1 hs2
  go_wp2
  try simp only [Exit.inBlock, Exit.then]
  exact bodyPost_ret (results_cell_row rfl _ _ (w.heap.size + 1) 26 _ (0, 0) _ rfl HF.out Try.underlying26 rfl (by kernel_rfl)) rfl ⟨_, rfl, HNF.out, HBF.out⟩

set_option maxRecDepth 100000 in
set_option maxHeartbeats 1000000 in
theorem sStartAt_no (s : ByteArray) (hs : s.size ≤ maxLen) (n : Int) (v : Value) (L : List (List Nat)) (k : Int) (w : World) (h : Txts w v L) (hl : L.length ≤ 2000000) (hsm : Small L) (hg : startB s n L k = false) :
    Calls Try.prog 19 #[.agg #[.string s, .int .i64 n, v], .int .i64 k] w (MethAny ⟨#[]⟩ 0 [] false w) := by
  obtain ⟨a, cap, rfl, hcap, -⟩ := id h
  have HT := Lib.hid h
  have HR0 := Lib.hid ((RowAt.new w 26 #[.string s, .int .i64 n, .slice a L.length cap]).push (.cells zeroM 26))
  have HZ0 : Hid (RowAt ((w.alloc (.cells #[.string s, .int .i64 n, .slice a L.length cap] 26)).alloc (.cells zeroM 26)) (w.heap.size + 1) 26 zeroM) := Lib.hid (by
    have := RowAt.new (w.alloc (.cells #[.string s, .int .i64 n, .slice a L.length cap] 26)) 26 zeroM
    simpa using this)
  have HB0 := Lib.hid (((Below.refl _ w).alloc (Nat.le_refl _) (.cells #[.string s, .int .i64 n, .slice a L.length cap] 26)).alloc (by simp) (.cells zeroM 26))
  have HG := Lib.hid (fun w h => l4Good_any s hs n (.slice a L.length cap) L w h hl hsm)
  have hcase : goodM s n L = false ∨ (goodM s n L = true ∧ (decide (0 ≤ k) && decide (k ≤ (L.length : Int) - 1)) = false) := by
    unfold startB at hg
    cases h1 : goodM s n L
    · exact .inl rfl
    · rw [h1, Bool.true_and] at hg
      refine .inr ⟨rfl, ?_⟩
      rw [show decide (k ≤ (L.length : Int) - 1) = decide (k < L.length) from decide_eq_decide.2 (by omega)]
      exact hg
  clear h hcap hg hsm
  have hl' : (L.length : Int) ≤ 2000000 := by omega
  clear hl
  have HC := Lib.hid hcase
  clear hcase
  generalize goodM s n L = gm at *
  generalize L.length = m at *
  go_enter Try.func19, Try.ntmps19
  go_wp2_with (first | (refine wpList_load_row rfl 26 _ rfl _ rfl 26 _ _ _ (HR0.out) Try.underlying26 rfl (by kernel_rfl) ?_) | fail)
  refine (HG.out _ (HT.out.kept HB0.out)).mono ?_
  rintro e w1 ⟨rfl, hb1⟩
  have HR1 := Lib.hid (HR0.out.kept hb1)
  have HZ1 := Lib.hid (HZ0.out.kept hb1)
  have HB1 := Lib.hid (HB0.out.trans (hb1.mono HB0.out.size))
  have c2 := HR1.out.cell 2 rfl
  clear hb1
  rcases HC.out with rfl | ⟨rfl, h1⟩
  · go_wp2_with (first | (refine wpList_store_row rfl 26 _ _ rfl _ _ rfl rfl 26 _ (HZ1.out) (by kernel_rfl) rfl (by kernel_rfl) ?_) | fail)
    exact bodyPost_ret (results_row_tmp rfl _ _ (w.heap.size + 1) 26 _ (0, 0) _ rfl (HZ1.out.row _) Try.underlying26 rfl (by kernel_rfl)) rfl ⟨_, rfl, New.nil _ _ _, below_setRow HB1.out (by omega) _⟩
  · have H1 := Lib.hid h1
    clear h1
    go_wp2_with (first | (go_at_call 65; refine (l1In_any _ _ _ _).mono ?_; rintro e w6 ⟨rfl, rfl⟩; rw [H1.out]) | (refine wpList_store_row rfl 26 _ _ rfl _ _ rfl rfl 26 _ (HZ1.out) (by kernel_rfl) rfl (by kernel_rfl) ?_) | fail)
    exact bodyPost_ret (results_row_tmp rfl _ _ (w.heap.size + 1) 26 _ (0, 0) _ rfl (HZ1.out.row _) Try.underlying26 rfl (by kernel_rfl)) rfl ⟨_, rfl, New.nil _ _ _, below_setRow HB1.out (by omega) _⟩

set_option maxRecDepth 100000 in
set_option maxHeartbeats 1000000 in
theorem sStartAt_yes (s : ByteArray) (hs : s.size ≤ maxLen) (n : Int) (v : Value) (L : List (List Nat)) (k : Nat) (w : World) (h : Txts w v L) (hl : L.length ≤ 2000000) (hsm : Small L) (hg : goodM s n L = true) (hk : k < L.length) :
    Calls Try.prog 19 #[.agg #[.string s, .int .i64 n, v], .int .i64 k] w (MethAny s n (L.drop k ++ L.take k) true w) := by
  have hlen := goodAll_len (goodM_parts hg).1
  obtain ⟨a, cap, rfl, hcap, -⟩ := id h
  have HT := Lib.hid h
  have HR0 := Lib.hid ((RowAt.new w 26 #[.string s, .int .i64 n, .slice a L.length cap]).push (.cells zeroM 26))
  have HZ0 : Hid (RowAt ((w.alloc (.cells #[.string s, .int .i64 n, .slice a L.length cap] 26)).alloc (.cells zeroM 26)) (w.heap.size + 1) 26 zeroM) := Lib.hid (by
    have := RowAt.new (w.alloc (.cells #[.string s, .int .i64 n, .slice a L.length cap] 26)) 26 zeroM
    simpa using this)
  have HB0 := Lib.hid (((Below.refl _ w).alloc (Nat.le_refl _) (.cells #[.string s, .int .i64 n, .slice a L.length cap] 26)).alloc (by simp) (.cells zeroM 26))
  have HG := Lib.hid (fun w h => l4Good_any s hs n (.slice a L.length cap) L w h hl hsm)
  rw [hg] at HG
  have HST := Lib.hid (fun w h => l4Start_any s n (.slice a L.length cap) L k w h hlen.2 hk)
  unfold MethOut at HST
  have h1 : (decide ((0 : Int) ≤ k) && decide ((k : Int) ≤ (L.length : Int) - 1)) = true := by simp; omega
  have H1 := Lib.hid h1
  obtain ⟨R, hR⟩ : ∃ R, L.drop k ++ L.take k = R := ⟨_, rfl⟩
  rw [hR] at HST ⊢
  have hm40 : (L.length : Int) ≤ 40 := by omega
  clear h hcap hg hsm hl h1 hR hlen hk
  generalize L.length = m at *
  go_enter Try.func19, Try.ntmps19
  go_wp2_with (first | (refine wpList_load_row rfl 26 _ rfl _ rfl 26 _ _ _ (HR0.out) Try.underlying26 rfl (by kernel_rfl) ?_) | fail)
  refine (HG.out _ (HT.out.kept HB0.out)).mono ?_
  rintro e w1 ⟨rfl, hb1⟩
  have HR1 := Lib.hid (HR0.out.kept hb1)
  have HZ1 := Lib.hid (HZ0.out.kept hb1)
  have HB1 := Lib.hid (HB0.out.trans (hb1.mono HB0.out.size))
  have c2 := HR1.out.cell 2 rfl
  clear hb1 HR0 HZ0 HB0
  go_wp2_with (first | (go_at_call 65; refine (l1In_any _ _ _ _).mono ?_; rintro e w6 ⟨rfl, rfl⟩; rw [H1.out]) | (refine wpList_load_row rfl 26 _ rfl _ rfl 26 _ _ _ (HR1.out) Try.underlying26 rfl (by kernel_rfl) ?_) | fail)
  refine (HST.out _ (HT.out.kept HB1.out)).mono ?_
  rintro e w2 ⟨v2, rfl, hn2, hb2⟩
  have HZ2 := Lib.hid (HZ1.out.kept hb2)
  have HB2 := Lib.hid (HB1.out.trans (hb2.mono HB1.out.size))
  have HN2 := Lib.hid (hn2.lower HB1.out.size)
  obtain ⟨a2, k2, rfl, -⟩ := hn2.own.view
  rw [strs_len] at HN2 ⊢
  generalize R.length = rl at *
  clear hb2 hn2 HR1 HZ1 HB1 c2
  go_wp2_with (first | (refine wpList_store_row rfl 26 _ _ rfl _ _ rfl rfl 26 _ (HZ2.out) (by kernel_rfl) rfl (by kernel_rfl) ?_) | fail)
  exact bodyPost_ret (results_row_tmp rfl _ _ (w.heap.size + 1) 26 _ (0, 0) _ rfl (HZ2.out.row _) Try.underlying26 rfl (by kernel_rfl)) rfl ⟨_, rfl, HN2.out.setRowOther _ _ (HN2.out.apartRow HZ2.out (by decide)), below_setRow HB2.out (by omega) _⟩

theorem bothStartAt (s : ByteArray) (hs : s.size ≤ maxLen) (n : Int) (L : List (List Nat)) (hl : L.length ≤ 2000000) (hsm : Small L) (r : Int) :
    ∃ (sp : ByteArray) (np : Int) (P : List (List Nat)) (b : Bool), P.length ≤ 1000 ∧ (∀ u w, Txts w u L → Calls Try.prog 18 #[.agg #[.string s, .int .i64 n, u], .int .i64 r] w (MethAny sp np P b w)) ∧
      (∀ u w, Txts w u L → Calls Try.prog 19 #[.agg #[.string s, .int .i64 n, u], .int .i64 r] w (MethAny sp np P b w)) := by
  cases hb : startB s n L r
  · exact ⟨_, _, [], _, by simp, fun u w h => iStartAt_no s hs n u L r w h hl hb, fun u w h => sStartAt_no s hs n u L r w h hl hsm hb⟩
  · unfold startB at hb
    rw [Bool.and_eq_true, Bool.and_eq_true, decide_eq_true_eq, decide_eq_true_eq] at hb
    obtain ⟨hg, h0, hlt⟩ := hb
    obtain ⟨k, rfl⟩ : ∃ k : Nat, r = k := ⟨r.toNat, by omega⟩
    refine ⟨_, _, _, _, ?_, fun u w h => iStartAt_yes s hs n u L k w h hl hg (by omega), fun u w h => sStartAt_yes s hs n u L k w h hl hsm hg (by omega)⟩
    have := goodAll_len (goodM_parts hg).1
    simp
    omega
end Go.Proofs.Ytfocnflnpabmkaa
