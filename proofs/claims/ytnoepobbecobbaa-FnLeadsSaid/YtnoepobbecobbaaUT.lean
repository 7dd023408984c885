/- What the law on leads asks of a method. -/
import Derived.Test.YtnoepobbecobbaaG8
import Derived.Test.YtnoepobbecobbaaDA
import Derived.Test.YtnoepobbecobbaaD13
import Derived.Test.YtnoepobbecobbaaUI
import Derived.Test.YtnoepobbecobbaaRLB
namespace Go.Proofs.Ytnoepobbecobbaa
open Go.RowKit
set_option linter.unusedSimpArgs false
set_option linter.unusedVariables false

theorem goodM_back {s : ByteArray} {n : Int} {L : List (List Nat)} (h : goodM s n L = true) : goodM s n L.reverse = true := by
  have hp := goodM_parts h
  unfold goodM goodAll at h ⊢
  rw [List.length_reverse, List.all_reverse]
  exact h
/-- the row before change k of a lead from f -/
noncomputable def atF (q : Nat) (cs : List (Nat → Nat)) (f : Nat → Nat) (k : Nat) : Nat → Nat := endF q (cs.take k) f

structure LeadsOk (s : ByteArray) (n : Int) (L : List (List Nat)) (r : ByteArray) (P : List (List Nat)) (H E U : ByteArray) (T : List (List Nat)) (X : Nat → ByteArray) : Prop where
  pos : 1 ≤ L.length
  few : L.length ≤ 40
  len : P.length = L.length
  tlen : T.length ≤ 1000
  head : ∀ u w, Txts w u L → Calls Try.prog 49 #[.agg #[.string s, .int .i64 n, u]] w fun e w' => e = .returned (.tuple #[.string H, .bool true]) ∧ Below w.heap.size w w'
  times : ∀ w, Calls Try.prog 50 #[.string r, .string H] w fun e w' => e = .returned (.tuple #[.string E, .bool true]) ∧ Below w.heap.size w w'
  turn : ∀ u w, Txts w u L → Calls Try.prog 51 #[.agg #[.string s, .int .i64 n, u]] w (MethAny s n T true w)
  head2 : ∀ u w, Txts w u T → Calls Try.prog 49 #[.agg #[.string s, .int .i64 n, u]] w fun e w' => e = .returned (.tuple #[.string U, .bool true]) ∧ Below w.heap.size w w'
  back : ∀ w, Calls Try.prog 52 #[.string H] w fun e w' => e = .returned (.tuple #[.string U, .bool true]) ∧ Below w.heap.size w w'
  at_ : ∀ k, k < L.length → txt (P.getD k []) = X k
  end_ : X L.length = E
  app : ∀ k, k < L.length → ∀ w, Calls Try.prog 53 #[.string (X k), .string (txt (L.getD k []))] w fun e w' => e = .returned (.tuple #[.string (X (k + 1)), .bool true]) ∧ Below w.heap.size w w'

theorem leadsFacts (s : ByteArray) (hs : s.size ≤ maxLen) (n : Int) (L : List (List Nat)) (hl : L.length ≤ 2000000) (hsm : Small L) (r : ByteArray) (hr : r.size ≤ maxLen) :
    ∃ (P : List (List Nat)) (b g : Bool), P.length ≤ 1000 ∧ (∀ u w, Txts w u L → Calls Try.prog 44 #[.agg #[.string s, .int .i64 n, u], .string r] w (TextsAny P b w)) ∧
      (∀ u w, Txts w u L → Calls Try.prog 45 #[.agg #[.string s, .int .i64 n, u], .string r] w (TextsAny P b w)) ∧
      (∀ u w, Txts w u L → Calls Try.prog 47 #[.agg #[.string s, .int .i64 n, u]] w fun e w' => e = .returned (.bool g) ∧ Below w.heap.size w w') ∧
      (∀ u w, Txts w u L → Calls Try.prog 48 #[.agg #[.string s, .int .i64 n, u]] w fun e w' => e = .returned (.bool g) ∧ Below w.heap.size w w') ∧
      (b = true → ∃ (H E U : ByteArray) (T : List (List Nat)) (X : Nat → ByteArray), LeadsOk s n L r P H E U T X) := by
  have hP : (leadL s n L r).length ≤ 1000 := by
    unfold leadL
    split
    · rename_i h
      unfold leadB at h
      simp only [Bool.and_eq_true] at h
      have := goodAll_len (goodM_parts h.1.1).1
      simp [rowsL_len, leadF_len, chR_len]
      omega
    · simp
  refine ⟨leadL s n L r, leadB s n L r, goodM s n L, hP, fun u w h => iLeadRows_any s hs n u L r hr w h hl, fun u w h => sLeadRows_any s hs n u L r hr w h hl hsm, fun u w h => iGoodMethod_any s hs n u L w h hl, fun u w h => sGoodMethod_any s hs n u L w h hl hsm, fun hb => ?_⟩
  have hb0 := hb
  unfold leadB at hb
  simp only [Bool.and_eq_true, decide_eq_true_eq] at hb
  obtain ⟨⟨hg, hgr⟩, hz⟩ := hb
  obtain ⟨q, rfl⟩ := good_cast hg
  have h9 := goodM_nat hg
  have hlen := goodAll_len (goodM_parts hg).1
  have hf : IsRow q (dg r) := by
    have := goodB_row hgr
    rwa [show r.size = q by omega] at this
  have hrs : r = strOf q (dg r) := by
    have := strOf_of_isStr (isStr_dg r)
    rwa [show r.size = q by omega] at this
  have hrH := isRow_head h9.1 h9.2.1 h9.2.2.1
  have hg2 := goodM_back hg
  have hP2 : leadL s q L r = rowsL q (leadF q (chR q L) (dg r)) := by
    unfold leadL
    rw [hb0, if_pos rfl]
    rfl
  rw [hP2]
  generalize dg r = f at *
  subst hrs
  have hcl := chR_len q L
  have hrows := h9.2.2.1
  have htw : ∀ c ∈ chR q L, mulR q c c = rdf q := ch_twice (goodM_parts hg).1
  have hrev : headF q (chR q L.reverse) = invF q (headF q (chR q L)) := by
    rw [chR_rev]
    exact head_rev h9.1 h9.2.1 hrows htw
  have hstep : ∀ j (hj : j < (chR q L).length), mulR q (endF q ((chR q L).take j) f) (chR q L)[j] = endF q ((chR q L).take (j + 1)) f := fun j hj => by
    rw [List.take_add_one, List.getElem?_eq_getElem hj, endF_app]
    rfl
  have hrow : ∀ k, IsRow q (endF q ((chR q L).take k) f) := fun k => isRow_end (hrows.take k) hf
  refine ⟨strOf q (headF q (chR q L)), strOf q (mulR q f (headF q (chR q L))), strOf q (invF q (headF q (chR q L))), L.reverse, fun k => strOf q (atF q (chR q L) f k), ?_⟩
  constructor
  · exact hlen.1
  · exact hlen.2
  · rw [rowsL_len, leadF_len, hcl]
  · rw [List.length_reverse]; omega
  · exact fun u w h => iLeadHead_yes s hs q u L w h hl hg
  · exact fun w => iTimes_rows hf hrH w
  · exact fun u w h => iTurnMethod_yes s hs q u L w h hl hg
  · intro u w h
    rw [← hrev]
    exact iLeadHead_yes s hs q u L.reverse w h (by rw [List.length_reverse]; exact hl) hg2
  · exact fun w => iTurnRow_row hrH w
  · intro k hk
    have h1 := leadF_at (n := q) (chR q L) f k (by rw [hcl]; exact hk)
    have h2 : (rowsL q (leadF q (chR q L) f)).getD k [] = rowL q (endF q ((chR q L).take k) f) := by
      rw [List.getD_eq_getElem?_getD]
      unfold rowsL
      rw [List.getElem?_map, h1]
      rfl
    rw [h2, txt_rowL]
    rfl
  · show strOf q (endF q ((chR q L).take L.length) f) = _
    rw [← hcl, List.take_length, endF_head hrows hf]
  · intro k hk w
    have hkl : k < (chR q L).length := by rw [hcl]; exact hk
    have hgd : L.getD k [] = L[k] := by simp [List.getD_eq_getElem?_getD, hk]
    have hgl := goodAll_mem (goodM_parts hg).1 L[k] (List.getElem_mem hk)
    rw [goodC_in] at hgl
    have hlt := lets_ch h9.1 h9.2.1 (mem_chs hgl)
    have hce : (chR q L)[k] = cf q (lets (txt L[k])) := by
      have : (chR q L)[k] = chF q (txt L[k]) := by simp [chR]
      rw [this, chF_yes hgl]
    have h1 := iApply_yes (strOf q (atF q (chR q L) f k)) (txt L[k]) (mx_row _ h9.2.1) (goodB_strOf (hrow k)) (by rw [strOf_size]; exact hgl) w
    have h2 : appF (strOf q (atF q (chR q L) f k)) (txt L[k]) = strOf q (atF q (chR q L) f (k + 1)) := by
      unfold appF atF
      rw [strOf_size, dg_strOf (hrow k), ← hce, strOf_mul]
      exact congrArg _ (hstep k hkl)
    rw [h2] at h1
    rw [hgd]
    exact h1

theorem courseFacts (s : ByteArray) (hs : s.size ≤ maxLen) (n : Int) (L : List (List Nat)) (hl : L.length ≤ 2000000) (hsm : Small L) :
    ∃ (P : List (List Nat)) (b : Bool) (t : Nat) (lb : Bool), P.length ≤ 1000 ∧ t ≤ 840 ∧ (∀ u w, Txts w u L → Calls Try.prog 55 #[.agg #[.string s, .int .i64 n, u]] w (TextsAny P b w)) ∧
      (∀ u w, Txts w u L → Calls Try.prog 56 #[.agg #[.string s, .int .i64 n, u]] w (TextsAny P b w)) ∧
      (∀ u w, Txts w u L → Calls Try.prog 57 #[.agg #[.string s, .int .i64 n, u]] w fun e w' => e = .returned (.tuple #[.int .i64 (t : Nat), .bool lb]) ∧ Below w.heap.size w w') ∧
      (∀ u w, Txts w u L → Calls Try.prog 58 #[.agg #[.string s, .int .i64 n, u]] w fun e w' => e = .returned (.tuple #[.int .i64 (t : Nat), .bool lb]) ∧ Below w.heap.size w w') ∧
      (b = true → lb = true ∧ P.length = t * L.length ∧ L.length ≤ 40 ∧ ∀ u w, Txts w u P → Calls Try.prog 35 #[u] w fun e w' => e = .returned (.tuple #[.bool true, .bool true]) ∧ Below w.heap.size w w') := by
  cases hg : goodM s n L
  · exact ⟨[], false, 0, false, by simp, by omega, fun u w h => iCourseRows_no s hs n u L w h hl hg, fun u w h => sCourseRows_no s hs n u L w h hl hsm hg, fun u w h => iLeadsIn_no s hs n u L w h hl hg, fun u w h => sLeadsIn_no s hs n u L w h hl hsm hg, fun h => by cases h⟩
  · obtain ⟨q, rfl⟩ := good_cast hg
    obtain ⟨o, ho⟩ := good_ord hg
    have h9 := goodM_nat hg
    have hlen := goodAll_len (goodM_parts hg).1
    have hcl := chR_len q L
    refine ⟨_, _, o, true, ?_, ho.le, fun u w h => iCourseRows_yes s hs q u L w h hl hg o ho _ rfl, fun u w h => sCourseRows_yes s hs q u L w h hl hsm hg o ho _ rfl, fun u w h => iLeadsIn_yes s hs q u L w h hl hg o ho, fun u w h => sLeadsIn_yes s hs q u L w h hl hsm hg o ho, fun hb => ?_⟩
    · split
      · rename_i h
        rw [decide_eq_true_eq] at h
        rw [rowsL_len, courseF_len, chR_len]
        omega
      · simp
    · rw [hb, if_pos rfl]
      rw [decide_eq_true_eq] at hb
      have hrd := isRow_rdf h9.1 h9.2.1
      have hcn := course_next (goodM_parts hg).1 ho hrd
      have hrow : Rows q (courseF q (chR q L) o (rdf q)) := by
        rw [courseF_flat]
        exact rows_lead (fun c hc => h9.2.2.1 c (timesL_mem o hc)) hrd
      have hclen : (courseF q (chR q L) o (rdf q)).length = o * L.length := by rw [courseF_len, hcl]
      have hop : 0 < o := ho.pos
      have hpos : 0 < (courseF q (chR q L) o (rdf q)).length := by rw [hclen]; exact Nat.mul_pos hop hlen.1
      generalize courseF q (chR q L) o (rdf q) = fs at *
      refine ⟨rfl, by rw [rowsL_len, hclen], hlen.2, fun u w h => ?_⟩
      have h8 : fs.length ≤ 800 := by omega
      have hfn := firstN_rowsL (n := q) hpos
      have hLB : listB (rowsL q fs) = true := by
        unfold listB
        rw [hfn]
        exact rowsB_rowsL hrow h8
      have hA : areB (rowsL q fs) = true := by
        unfold areB
        rw [hLB, hfn, rF_rowsL hrow, rowsL_len, decide_eq_true hpos, hcn]
        rfl
      have h1 := iAreNext_any u (rowsL q fs) w h (by rw [rowsL_len]; omega) (fun l hm => by
        obtain ⟨f, _, rfl⟩ := List.mem_map.1 hm
        rw [rowL_lenB]
        unfold maxLen
        omega)
      rw [hA, hLB] at h1
      exact h1
end Go.Proofs.Ytnoepobbecobbaa
