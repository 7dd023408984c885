/- The group that rows generate, in the program; a set's rows in order. -/
import Derived.Test.YtapcfojnljnoaaaGreatSP
import Derived.Test.YtapcfojnljnoaaaGreatSM
import Derived.Test.YtapcfojnljnoaaaGreatSL
namespace Go.Proofs.YtapcfojnljnoaaaGreat
open Go.RowKit
set_option linter.unusedSimpArgs false
set_option linter.unusedVariables false

theorem sortRows_any (n : Nat) (fs : List (Nat → Nat)) (hr : Rows n fs) (hl : fs.length ≤ 1000) (B : Nat) (v : Value) (w : World) (hB : B ≤ w.heap.size) (h : NewD B w v fs) :
    Calls Tryz.prog 54 #[v] w fun e w' => e = .returned (.tuple #[]) ∧ NewD B w' v (sortF n fs) ∧ Below B w w' := by
  have HC := Lib.hid (sortDigits_any n fs hr hl B v w hB h)
  clear h
  go_enter Tryz.func54, Tryz.ntmps54
  go_wp2_with fail
  refine HC.out.mono ?_
  rintro e w' ⟨rfl, h1, h2⟩
  go_wp2
  go_end0
  exact ⟨rfl, h1, h2⟩

theorem wpList_entry_rows {ops : Array Oper} {rest : List Oper} {o : Oper} {a : Act} {w : World} {Q : Exit → Act → World → Prop} (hg : o.guard = none) (it : Operand) (hop : o.op = Op.entry it) (r : Nat) (f : Nat → Nat) (hit : a.eval it = .pointer (some ⟨r, 0, none⟩))
    (hen : (Instr.entry (.pointer (some ⟨r, 0, none⟩))).run Tryz.prog w = .ok (.tuple #[.agg (dig8 f), .bool true]) w)
    (hK : wpList Tryz.prog ops Q rest (a.put o.dst (.tuple #[.agg (dig8 f), .bool true])) w) : wpList Tryz.prog ops Q (o :: rest) a w := by
  refine wpList_plain hg fun K' hK' => ?_
  unfold Oper.wp
  simp [execOp, hop, hit, hen, Result.andThen]
  exact hK' _ _ hK

set_option maxRecDepth 100000 in
set_option maxHeartbeats 1000000 in
theorem groupFrom_any (n : Nat) (h3 : 3 ≤ n) (h8 : n ≤ 8) (v : Value) (gens : List (Nat → Nat)) (hg : Rows n gens) (hl : gens.length ≤ 1000) (w : World) (h : Digs w v gens) :
    Calls Tryz.prog 29 #[.int .i64 n, v] w (SetAny n (grpR n gens) w) := by
  obtain ⟨m, hm⟩ : ∃ m, gens.length = m := ⟨_, rfl⟩
  obtain ⟨a, cap, rfl, hcap, ha⟩ := h
  have ha : 0 < m → ∃ g off, a = some ⟨g, off, none⟩ ∧ g < w.heap.size ∧ ∀ i (h : i < gens.length), w.rangeAt g (off + i * 8) (cells8 gens[i]) := fun h0 => ha (by rw [hm]; exact h0)
  rw [hm] at hl ⊢
  have hl' : (m : Int) ≤ 1000 := by omega
  unfold grpR
  generalize hres : grpF n gens [] [rdf n] = res
  have HA := Lib.hid ha
  have HM := Lib.hid hm
  have HG := Lib.hid hg
  have HRES := Lib.hid hres
  have HRD := Lib.hid (roundsDigits_any n h8)
  have HIR := Lib.hid (isRow_rdf h3 h8)
  have HPR := Lib.hid (fun v needed (hr : Rows n needed) (hl : needed.length ≤ 1000) w h => products_any n h3 h8 v needed hr hl w h)
  clear ha hm hcap hg hres
  go_enter Tryz.func29, Tryz.ntmps29
  go_wp2_with fail
  refine (HRD.out _).mono ?_
  rintro e w1 ⟨rfl, hb1⟩
  have HB1 := Lib.hid (hb1.alloc hb1.size (.cells (dig8 (rdf n)) 70))
  have HQ1 := Lib.hid ((QueD.one w1 (rdf n)).lower hb1.size)
  clear hb1 HRD
  go_wp2_with (first | (refine wpList_build8 rfl _ rfl (rdf n) rfl ?_) | fail)
  refine (rowSetOf_any n _ [rdf n] (fun x hx => by simp at hx; rw [hx]; exact HIR.out) (by simp) _ HQ1.out.digs).mono ?_
  rintro e w2 ⟨b, rfl, hbs, hs2, hb2⟩
  rw [rdf_one] at hs2
  have HB2 := Lib.hid (HB1.out.trans (hb2.mono HB1.out.size))
  have HS2 := Lib.hid hs2
  have HBB : Hid (w.heap.size ≤ b) := Lib.hid (Nat.le_trans HB1.out.size hbs)
  clear hs2 hb2 hbs HB1 HQ1
  go_wp2
  go_loopg [6, 7, 18] m (fun q gv nv i wr => ∃ (j b : Nat) (needed G : List (Nat → Nat)), q + j = m ∧ i = .int .i64 j ∧ gv = .map (some b) ∧ w.heap.size ≤ b ∧ needed.length ≤ j ∧ Rows n needed ∧ NewD w.heap.size wr nv needed ∧ SetAt wr n b G ∧ grpF n (gens.drop j) needed G = res ∧ Below w.heap.size w wr)
  case atStart => exact ⟨0, b, [], [rdf n], by omega, rfl, rfl, HBB.out, by simp, fun x hx => by simp at hx, NewD.nil _ _, HS2.out, HRES.out, HB2.out⟩
  case round =>
    clear HS2 HRES HB2 HIR HBB
    obtain ⟨j, b, needed, G, hq, rfl, rfl, hbb, hnl, hnr, hn, hs, hr, hb⟩ := hrel
    have HN := Lib.hid hn
    have HS := Lib.hid hs
    have HB := Lib.hid hb
    have HBB := Lib.hid hbb
    have HNL := Lib.hid hnl
    have HNR := Lib.hid hnr
    obtain ⟨na, ncap, rfl, -, -⟩ := hn.view rfl
    obtain ⟨nl, hnl'⟩ : ∃ k, needed.length = k := ⟨_, rfl⟩
    rw [hnl'] at HN ⊢
    by_cases hlt : j < m
    · obtain ⟨q', rfl⟩ : ∃ q', gk = q' + 1 := ⟨gk - 1, by omega⟩
      obtain ⟨gb, off, rfl, hgb, hc⟩ := HA.out (by omega)
      have hjx : j < gens.length := by rw [HM.out]; exact hlt
      have hrow := HG.out _ (List.getElem_mem hjx)
      have hload := hc j hjx
      rw [List.drop_eq_getElem_cons hjx] at hr
      generalize gens[j] = x at *
      have HL : Hid (wr.rangeAt gb (off + j * 8) (cells8 x)) := Lib.hid (fun k u hu => (HB.out.cell (p := ⟨gb, off + j * 8 + k, none⟩) hgb).trans (hload k u hu))
      have hji : (j : Int) < m := by omega
      have HR := Lib.hid hr
      have HROW := Lib.hid hrow
      have hal : Below wr.heap.size wr (wr.alloc (.cells (dig8 x) 70)) := (Below.refl _ wr).alloc (Nat.le_refl _) _
      have HBX := Lib.hid (HB.out.alloc HB.out.size (.cells (dig8 x) 70))
      have HXX := Lib.hid (RowAt.new wr 70 (dig8 x))
      have HSX := Lib.hid (HS.out.kept hal)
      have HNX := Lib.hid (HN.out.kept hal)
      clear hc hload hr hn hs hb hbb hnl hnr hal HS HB HN
      cases hin : inB x G
      · have hout := inB_no.1 hin
        have hr := HR.out
        rw [grpF_out n hout] at hr
        have HR2 := Lib.hid hr
        have HQ8 := Lib.hid ((QueD.one (wr.alloc (.cells (dig8 x) 70)) x).digs)
        have hal : Below (wr.alloc (.cells (dig8 x) 70)).heap.size (wr.alloc (.cells (dig8 x) 70)) ((wr.alloc (.cells (dig8 x) 70)).alloc (.cells (dig8 x) 70)) := (Below.refl _ _).alloc (Nat.le_refl _) _
        have HNZ := Lib.hid (HNX.out.kept hal)
        have HBZ := Lib.hid (HBX.out.alloc HBX.out.size (.cells (dig8 x) 70))
        clear hr hal HR hout
        go_wp2_with (first | (refine wpList_store_row rfl 70 _ _ rfl _ _ rfl rfl 70 _ (heap_at _ _ _ (by simp)) (by kernel_rfl) rfl (by kernel_rfl) ?_; rw [setRow_at _ _ _ _ _ (by simp)]) | (refine wpList_load8 rfl _ rfl gb (off + j * 8) rfl x HL.out ?_) | (refine wpList_load_row rfl 70 _ rfl _ rfl 70 _ _ _ (HXX.out) Tryz.underlying70 rfl (by kernel_rfl) ?_) | (at_lookup; refine wpList_look_row rfl _ _ rfl n b G x HROW.out HSX.out rfl rfl ?_; rw [hin]) | (refine wpList_build8 rfl _ rfl x rfl ?_) | (at_builtin; refine wpList_app8 rfl _ _ 46 rfl Tryz.underlying46 w.heap.size w.heap.size (Nat.le_refl _) _ needed [x] rfl HNZ.out _ rfl HQ8.out (by simp) HBZ.out.size HBZ.out (by have := HNL.out; simp; omega) ?_) | fail)
        intro v' w6 hn6 hk6 hb6 _
        have HN6 := Lib.hid hn6
        have HB6 := Lib.hid hb6
        clear hn6 hk6 hb6 HXX HSX HNX HBX HQ8 HNZ HBZ HL
        have HNR2 : Hid (Rows n (needed ++ [x])) := Lib.hid (fun y hy => by
          rcases List.mem_append.1 hy with hy | hy
          · exact HNR.out y hy
          · simp at hy; rw [hy]; exact HROW.out)
        go_wp2_with fail
        refine (HPR.out v' (needed ++ [x]) HNR2.out (by have := HNL.out; simp; omega) w6 HN6.out.digs).mono ?_
        intro e w7 hset
        unfold SetAny at hset
        have hr := HR2.out
        generalize bfsR n (needed ++ [x]) = bo at *
        cases bo with
        | none =>
          obtain ⟨rfl, hb7⟩ := hset
          have hr : res = none := hr.symm
          subst hr
          have HB7 := Lib.hid (HB6.out.trans (hb7.mono HB6.out.size))
          clear hb7 HR2
          go_wp2
          go_ret2
          exact ⟨rfl, HB7.out⟩
        | some G' =>
          obtain ⟨b', rfl, hbs, hs7, hb7⟩ := hset
          have HR3 : Hid (grpF n (gens.drop (j + 1)) (needed ++ [x]) G' = res) := Lib.hid hr
          have HB7 := Lib.hid (HB6.out.trans (hb7.mono HB6.out.size))
          have HN7 := Lib.hid (HN6.out.kept hb7)
          have HS7 := Lib.hid hs7
          have HBB7 : Hid (w.heap.size ≤ b') := Lib.hid (Nat.le_trans HB6.out.size hbs)
          clear hb7 hr hbs hs7 HR2 HN6 HB6
          go_wp2
          go_roundg q'
          case measure => omega
          case rel => exact ⟨j + 1, b', needed ++ [x], G', by omega, by go_num, rfl, HBB7.out, by have := HNL.out; simp; omega, HNR2.out, HN7.out, HS7.out, HR3.out, HB7.out⟩
      · have hinn := inB_iff.1 hin
        have hr := HR.out
        rw [grpF_in n hinn] at hr
        have HR2 := Lib.hid hr
        clear hr hinn HR
        go_wp2_with (first | (refine wpList_store_row rfl 70 _ _ rfl _ _ rfl rfl 70 _ (heap_at _ _ _ (by simp)) (by kernel_rfl) rfl (by kernel_rfl) ?_; rw [setRow_at _ _ _ _ _ (by simp)]) | (refine wpList_load8 rfl _ rfl gb (off + j * 8) rfl x HL.out ?_) | (refine wpList_load_row rfl 70 _ rfl _ rfl 70 _ _ _ (HXX.out) Tryz.underlying70 rfl (by kernel_rfl) ?_) | (at_lookup; refine wpList_look_row rfl _ _ rfl n b G x HROW.out HSX.out rfl rfl ?_; rw [hin]) | fail)
        go_roundg q'
        case measure => omega
        case rel => exact ⟨j + 1, b, needed, G, by omega, by go_num, rfl, HBB.out, by have := HNL.out; omega, HNR.out, HNX.out, HSX.out, HR2.out, HBX.out⟩
    · obtain rfl : gk = 0 := by omega
      obtain rfl : j = m := by omega
      rw [List.drop_eq_nil_of_le (by rw [HM.out]; exact Nat.le_refl _)] at hr
      have hr : res = some G := hr.symm
      subst hr
      clear hn hs hb hbb hnl hnr
      go_wp2
      go_ret2
      exact ⟨b, rfl, HBB.out, HS.out, HB.out⟩

theorem Coming.block {W W' : World} {n b r : Nat} {S C : List (Nat → Nat)} {cnt : Nat} (h : Coming W n b r S C cnt) (hb : W'.heap[b]? = W.heap[b]?) (hr : W'.heap[r]? = W.heap[r]?) : Coming W' n b r S C cnt := by
  obtain ⟨q1, q2, q3, es, left, q4, q5⟩ := h
  refine ⟨q1.block hb, q2, q3, es, left, ?_, q5⟩
  unfold World.ranges at q4 ⊢
  rw [hb, hr]
  exact q4
theorem Coming.keptBut {W W' : World} {n b r : Nat} {S C : List (Nat → Nat)} {cnt : Nat} {v : Value} (h : Coming W n b r S C cnt) (hk : KeptBut W W' v) (h1 : v.ownBlock ≠ some b) (h2 : v.ownBlock ≠ some r) : Coming W' n b r S C cnt :=
  h.block (hk b h.1.lt h1) (hk r h.lt.1 h2)
theorem Coming.kept {W W' : World} {n b r : Nat} {S C : List (Nat → Nat)} {cnt : Nat} (h : Coming W n b r S C cnt) (hb : Below W.heap.size W W') : Coming W' n b r S C cnt :=
  h.block (hb.block b h.1.lt) (hb.block r h.lt.1)
theorem NewD.apartIter {W : World} {n b r B : Nat} {S C fs : List (Nat → Nat)} {cnt : Nat} {v : Value} (h : NewD B W v fs) (hc : Coming W n b r S C cnt) : v.ownBlock ≠ some b ∧ v.ownBlock ≠ some r := by
  obtain ⟨h1, h2⟩ := h
  rcases h2 with ⟨rfl, h0⟩ | ⟨g, cap, cur, rfl, hBg, hb, _⟩
  · exact ⟨by simp [Value.ownBlock], by simp [Value.ownBlock]⟩
  · obtain ⟨q1, q2, q3, es, left, q4, q5⟩ := hc
    obtain ⟨es', clock, since, seen, c0, e1, _, _, _, e2, _⟩ := q4
    constructor
    · intro e
      have e : g = b := by simpa [Value.ownBlock] using e
      subst e
      rw [hb] at e1
      cases e1
    · intro e
      have e : g = r := by simpa [Value.ownBlock] using e
      subst e
      rw [hb] at e2
      cases e2
theorem NewD.blockK {B : Nat} {W W' : World} {v : Value} {fs : List (Nat → Nat)} (h : NewD B W v fs) (hk : ∀ g, v.ownBlock = some g → W'.heap[g]? = W.heap[g]?) : NewD B W' v fs := by
  obtain ⟨h1, h2⟩ := h
  refine ⟨h1, ?_⟩
  rcases h2 with h2 | ⟨g, cap, cur, rfl, hBg, hb, h3⟩
  · exact .inl h2
  · exact .inr ⟨g, cap, cur, rfl, hBg, by rw [hk g rfl]; exact hb, h3⟩
theorem NewD.besides {B : Nat} {W W' : World} {v : Value} {fs : List (Nat → Nat)} {r : Nat} (h : NewD B W v fs) (hg : W.grownBy W' (some r)) (hne : v.ownBlock ≠ some r) : NewD B W' v fs := h.blockK fun g hg' =>
  hg.block g (h.lt g hg').2 (by rw [← hg']; exact hne)
def SortedOut (B : Nat) (fs : List (Nat → Nat)) (w : World) (e : Ending) (w' : World) : Prop := ∃ v, e = .returned v ∧ NewD B w' v fs ∧ Below B w w'
set_option maxRecDepth 100000 in
set_option maxHeartbeats 1000000 in
theorem sorted_any (n b : Nat) (S : List (Nat → Nat)) (hl : S.length ≤ 1000) (w : World) (h : SetAt w n b S) :
    Calls Tryz.prog 31 #[.map (some b)] w (SortedOut w.heap.size (sortF n S) w) := by
  obtain ⟨m, hm⟩ : ∃ m, S.length = m := ⟨_, rfl⟩
  have hbl := h.lt
  rw [hm] at hl
  have HS := Lib.hid h
  have HM := Lib.hid hm
  obtain ⟨i8, hi8, hz0, hz1, hz2⟩ := info_parts8
  have I8 := Lib.hid (⟨hi8, hz0, hz1, hz2⟩ : _ ∧ _ ∧ _ ∧ _)
  clear h hm hi8 hz0 hz1 hz2
  go_enter Tryz.func31, Tryz.ntmps31
  go_wp2_with (first | (at_len; refine wpList_len_rows rfl _ rfl n b S HS.out rfl ?_; rw [HM.out]) | (at_make; refine wpList_make_own _ rfl _ _ 46 rfl w.heap.size 70 i8 (.agg zero8) 8 Tryz.underlying46 I8.out.1 I8.out.2.1 I8.out.2.2.1 .i64 .i64 _ m rfl rfl rfl (by rw [I8.out.2.2.2]; omega) (by unfold maxLen; omega) (Nat.le_refl _) ?_) | fail)
  intro w1 hown hgrow
  have HB1 := Lib.hid ((Below.refl _ w).grown hgrow (Nat.le_refl _) (fun k hk => by cases hk))
  have HS1 := Lib.hid (HS.out.grown hgrow (by simp))
  have HN1 : Hid (NewD w.heap.size w1 (.slice (some ⟨w.heap.size, 0, none⟩) 0 m) []) := Lib.hid hown
  clear hown hgrow
  go_wp2_with (first | (refine wpList_range_rows rfl _ rfl n b S HS1.out rfl ?_) | fail)
  intro w2 hco hg2 hsz2
  have HB2 := Lib.hid (HB1.out.grown hg2 HB1.out.size (fun k hk => by cases hk))
  have HN2 := Lib.hid (HN1.out.kept ((Below.refl _ w1).grown hg2 (Nat.le_refl _) (fun k hk => by cases hk)))
  have HC2 := Lib.hid hco
  have hr0 : w.heap.size ≤ w1.heap.size := HB1.out.size
  generalize w1.heap.size = r at *
  clear hco hg2 HB1 HS1 HN1
  go_wp2
  go_loopg [3] m (fun q v3 wr => ∃ C : List (Nat → Nat), Coming wr n b r S C q ∧ NewD w.heap.size wr v3 C ∧ C.length ≤ m ∧ Below w.heap.size w wr)
  case atStart => exact ⟨[], by have := HC2.out; rwa [HM.out] at this, HN2.out, by simp, HB2.out⟩
  case round =>
    clear HC2 HN2 HB2
    obtain ⟨C, hco, hn, hcl, hb⟩ := hrel
    obtain ⟨ca, ccap, rfl, -, -⟩ := hn.view rfl
    have HCO := Lib.hid hco
    have HN := Lib.hid hn
    have HB := Lib.hid hb
    have HCL := Lib.hid hcl
    obtain ⟨cl, hcl'⟩ : ∃ k, C.length = k := ⟨_, rfl⟩
    rw [hcl'] at HN ⊢
    clear hco hn hb hcl
    go_wp2_with (first | (refine wpList_next_rows rfl _ rfl n b r S C gk HCO.out rfl ?_ ?_) | fail)
    · intro hp
      have hsl : sortF n C = sortF n S := sortF_congr HCO.out.1.rows hp
      have hrc : Rows n C := HCO.out.1.rows.perm hp
      have hc1 : C.length ≤ 1000 := by have := HCL.out; omega
      go_wp2_with fail
      refine (sortRows_any n C hrc hc1 w.heap.size _ _ HB.out.size HN.out).mono ?_
      rintro e w9 ⟨rfl, hn9, hb9⟩
      rw [hsl] at hn9
      have HN9 := Lib.hid hn9
      have HB9 := Lib.hid (HB.out.trans hb9)
      clear hn9 hb9 hsl
      go_wp2
      go_ret
      exact ⟨_, rfl, HN9.out, HB9.out⟩
    · intro f w' cnt' hf hfS hfC hco' hcnt hg' hsz' hen
      obtain ⟨hab, har⟩ := HN.out.apartIter HCO.out
      have HN1 := Lib.hid (HN.out.besides hg' har)
      have HB1 := Lib.hid (HB.out.grown hg' HB.out.size (fun k hk => by cases hk; exact hr0))
      have HC1 := Lib.hid hco'
      have hal : Below w'.heap.size w' (w'.alloc (.cells (dig8 f) 70)) := (Below.refl _ w').alloc (Nat.le_refl _) _
      have HXX := Lib.hid (RowAt.new w' 70 (dig8 f))
      have HN2 := Lib.hid (HN1.out.kept hal)
      have HC2 := Lib.hid (HC1.out.kept hal)
      have HB2 := Lib.hid (HB1.out.alloc HB1.out.size (.cells (dig8 f) 70))
      have hal2 : Below (w'.alloc (.cells (dig8 f) 70)).heap.size (w'.alloc (.cells (dig8 f) 70)) ((w'.alloc (.cells (dig8 f) 70)).alloc (.cells (dig8 f) 70)) := (Below.refl _ _).alloc (Nat.le_refl _) _
      have HQ8 := Lib.hid ((QueD.one (w'.alloc (.cells (dig8 f) 70)) f).digs)
      have HN3 := Lib.hid (HN2.out.kept hal2)
      have HC3 := Lib.hid (HC2.out.kept hal2)
      have HB3 := Lib.hid (HB2.out.alloc HB2.out.size (.cells (dig8 f) 70))
      clear hal hal2 hco' hg' hsz' HN HB HCO hab har HN1 HB1 HC1 HN2 HC2 HB2
      have HEN := Lib.hid hen
      clear hen
      go_wp2_with (first | (refine wpList_entry_rows rfl _ rfl r f rfl HEN.out ?_) | (refine wpList_store_row rfl 70 _ _ rfl _ _ rfl rfl 70 _ (heap_at _ _ _ (by simp)) (by kernel_rfl) rfl (by kernel_rfl) ?_; rw [setRow_at _ _ _ _ _ (by simp)]) | (refine wpList_load_row rfl 70 _ rfl _ rfl 70 _ _ _ (HXX.out) Tryz.underlying70 rfl (by kernel_rfl) ?_) | (refine wpList_build8 rfl _ rfl f rfl ?_) | (at_builtin; refine wpList_app8 rfl _ _ 46 rfl Tryz.underlying46 w.heap.size w.heap.size (Nat.le_refl _) _ C [f] rfl HN3.out _ rfl HQ8.out (by simp) HB3.out.size HB3.out (by have := HCL.out; simp; omega) ?_) | fail)
      intro v' w6 hn6 hk6 hb6 _
      obtain ⟨hab, har⟩ := HN3.out.apartIter HC3.out
      have HN6 := Lib.hid hn6
      have HB6 := Lib.hid hb6
      have HC6 := Lib.hid (HC3.out.keptBut hk6 hab har)
      clear hn6 hk6 hb6 HXX HN3 HC3 HB3 HQ8 hab har
      go_wp2
      go_roundg cnt'
      case measure => omega
      case rel =>
        refine ⟨C ++ [f], HC6.out, HN6.out, ?_, HB6.out⟩
        have h1 := HC6.out.2.1
        have h2 := HC6.out.2.2.1
        have := h1.length_le_of_subset (l₂ := S) h2
        rw [HM.out] at this
        exact this
end Go.Proofs.YtapcfojnljnoaaaGreat
