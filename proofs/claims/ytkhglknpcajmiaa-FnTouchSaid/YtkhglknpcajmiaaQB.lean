/- Calls in the program: kinds of calls, the changes that end a lead, heads. -/
import Derived.Test.YtkhglknpcajmiaaQA
import Derived.Deep.RegionHeld3
import Derived.StillTailTactics
import Derived.Deep.DeepCutAuto
namespace Go.Proofs.Ytkhglknpcajmiaa
open Go.RowKit
set_option linter.unusedSimpArgs false
set_option linter.unusedVariables false

set_option maxRecDepth 100000 in
set_option maxHeartbeats 1000000 in
theorem callKind_any (r : ByteArray) (w : World) :
    Calls Try.prog 79 #[.string r] w fun e w' => e = .returned (.tuple #[.int .i64 (kN r), .bool (kB r)]) ∧ w' = w := by
  by_cases h1 : r = ⟨#[115]⟩
  · subst h1
    go_enter Try.func79, Try.ntmps79
    go_wp2
    go_ret2
    exact ⟨rfl, rfl⟩
  by_cases h2 : r = ⟨#[98]⟩
  · subst h2
    go_enter Try.func79, Try.ntmps79
    go_wp2
    go_ret2
    exact ⟨rfl, rfl⟩
  by_cases h3 : r = ⟨#[112]⟩
  · subst h3
    go_enter Try.func79, Try.ntmps79
    go_wp2
    go_ret2
    exact ⟨rfl, rfl⟩
  have hn : kN r = 0 := by unfold kN; rw [if_neg h1, if_neg h2]
  have hb : kB r = false := by unfold kB; rw [decide_eq_false h1, decide_eq_false h2, decide_eq_false h3]; rfl
  rw [hn, hb]
  clear hn hb
  have hp := ne_p h3
  have hb := ne_b h2
  have hs := ne_s h1
  clear h1 h2 h3
  go_enter Try.func79, Try.ntmps79
  go_wp2
  go_ret2
  exact ⟨rfl, rfl⟩

set_option maxRecDepth 100000 in
set_option maxHeartbeats 1000000 in
theorem endings_any (s : ByteArray) (n : Int) (v : Value) (L : List (List Nat)) (b q : ByteArray) (w : World) (h : Txts w v L) (hl : L.length ≤ 40) (h1 : 1 ≤ L.length) :
    Calls Try.prog 80 #[.agg #[.string s, .int .i64 n, v], .agg #[.string b, .string q]] w fun e w' => e = .returned (.agg #[.string (endC L b q 0), .string b, .string q]) ∧ Below w.heap.size w w' := by
  obtain ⟨a, cap, rfl, hcap, ha⟩ := id h
  obtain ⟨g, off, rfl, hg, hc⟩ := ha (by omega)
  obtain ⟨k, hk⟩ : ∃ k, L.length = k + 1 := ⟨L.length - 1, by omega⟩
  have c9 := hc (L.length - 1) (by omega)
  have hE : endC L b q 0 = txt (L.getD (L.length - 1) []) := rfl
  rw [hE]
  clear hE
  generalize txt (L.getD (L.length - 1) []) = t at *
  rw [hk, Nat.add_sub_cancel] at c9
  have hk2 : k ≤ 39 := by omega
  rw [hk]
  clear hc ha h hcap hl hk h1
  have HR0 := Lib.hid ((RowAt.new w 25 #[.string s, .int .i64 n, .slice (some ⟨g, off, none⟩) (k + 1) cap]).push (.cells #[.string b, .string q] 27))
  have HK0 : Hid (RowAt ((w.alloc (.cells #[.string s, .int .i64 n, .slice (some ⟨g, off, none⟩) (k + 1) cap] 25)).alloc (.cells #[.string b, .string q] 27)) (w.heap.size + 1) 27 #[.string b, .string q]) := Lib.hid (by
    have := RowAt.new (w.alloc (.cells #[.string s, .int .i64 n, .slice (some ⟨g, off, none⟩) (k + 1) cap] 25)) 27 #[.string b, .string q]
    simpa using this)
  have hsz : ((w.alloc (.cells #[.string s, .int .i64 n, .slice (some ⟨g, off, none⟩) (k + 1) cap] 25)).alloc (.cells #[.string b, .string q] 27)).heap.size = w.heap.size + 1 + 1 := by simp
  have HB0 := Lib.hid (((Below.refl _ w).alloc (Nat.le_refl _) (.cells #[.string s, .int .i64 n, .slice (some ⟨g, off, none⟩) (k + 1) cap] 25)).alloc (by simp) (.cells #[.string b, .string q] 27))
  go_enter Try.func80, Try.ntmps80
  go_wp2_with fail
  generalize (w.alloc (.cells #[.string s, .int .i64 n, .slice (some ⟨g, off, none⟩) (k + 1) cap] 25)).alloc (.cells #[.string b, .string q] 27) = w0 at *
  have HX1 : Hid (RowAt (w0.alloc (.cells #[.string ⟨#[]⟩, .string ⟨#[]⟩, .string ⟨#[]⟩] 78)) (w.heap.size + 1 + 1) 78 #[.string ⟨#[]⟩, .string ⟨#[]⟩, .string ⟨#[]⟩]) := Lib.hid (by rw [← hsz]; exact RowAt.new w0 _ _)
  have HR1 := Lib.hid (HR0.out.push (.cells #[.string ⟨#[]⟩, .string ⟨#[]⟩, .string ⟨#[]⟩] 78))
  have HK1 := Lib.hid (HK0.out.push (.cells #[.string ⟨#[]⟩, .string ⟨#[]⟩, .string ⟨#[]⟩] 78))
  have HB1 := Lib.hid (HB0.out.alloc HB0.out.size (.cells #[.string ⟨#[]⟩, .string ⟨#[]⟩, .string ⟨#[]⟩] 78))
  clear HR0 HK0
  have hlt := HB0.out.size
  have hle : w.heap.size ≤ w0.heap.size := hlt
  generalize w0.alloc (.cells #[.string ⟨#[]⟩, .string ⟨#[]⟩, .string ⟨#[]⟩] 78) = w1 at *
  have c2 := HR1.out.cell 2 rfl
  have d0 := HK1.out.cell 0 rfl
  have d1 := HK1.out.cell 1 rfl
  have c8 := (HB1.out.cell (p := ⟨g, off + k, none⟩) hg).trans c9
  have hwp : IntKind.i64.wrap (k : Int) = (k : Int) := IntWalk.i64_in _ (by omega)
  have hwq : IntKind.i64.wrap ((k : Int) + 1 - 1) = (k : Int) := by rw [show (k : Int) + 1 - 1 = k by omega]; exact hwp
  have hk3 : (0 : Int) ≤ k := by omega
  have hk4 : (k : Int) < k + 1 := by omega
  go_still_tail 13, (by kernel_rfl)
  change wpList _ _ _ _ _ w1.drew
  have HX2 : Hid (RowAt w1.drew (w.heap.size + 1 + 1) 78 #[.string ⟨#[]⟩, .string ⟨#[]⟩, .string ⟨#[]⟩]) := Lib.hid HX1.out
  have HB2 := Lib.hid HB1.out.drew
  clear HB1 HX1 HR1 HK1 c2 d0 d1 c8 hwp hwq
  generalize w1.drew = w2 at *
  go_wp2_with (first | (refine wpList_store_row rfl 78 _ _ rfl _ _ rfl rfl 78 _ (HX2.out) (by kernel_rfl) rfl (by kernel_rfl) ?_) | fail)
  exact bodyPost_ret (results_cell_row rfl _ _ (w.heap.size + 1 + 1) 78 _ (0, 0) _ rfl (HX2.out.row _) Try.underlying78 rfl (by kernel_rfl)) rfl ⟨rfl, below_setRow HB2.out (by omega) _⟩

/-- a lead with the heads to which the calls lead -/
def callV (u : Value) (f h0 h1 h2 : Nat → Nat) : Array Value := #[u, .int .u8 (f 0), .int .u8 (f 1), .int .u8 (f 2), .int .u8 (f 3), .int .u8 (f 4), .int .u8 (f 5), .int .u8 (f 6), .int .u8 (f 7), .int .u8 (h0 0), .int .u8 (h0 1), .int .u8 (h0 2), .int .u8 (h0 3), .int .u8 (h0 4), .int .u8 (h0 5), .int .u8 (h0 6), .int .u8 (h0 7), .int .u8 (h1 0), .int .u8 (h1 1), .int .u8 (h1 2), .int .u8 (h1 3), .int .u8 (h1 4), .int .u8 (h1 5), .int .u8 (h1 6), .int .u8 (h1 7), .int .u8 (h2 0), .int .u8 (h2 1), .int .u8 (h2 2), .int .u8 (h2 3), .int .u8 (h2 4), .int .u8 (h2 5), .int .u8 (h2 6), .int .u8 (h2 7)]
/-- the heads that stand after so many rounds -/
def hzF (j k : Nat) (d : Nat → Nat) : Nat → Nat := if k < j then d else fun _ => 0
def zero33 : Array Value := #[.slice none 0 0, .int .u8 0, .int .u8 0, .int .u8 0, .int .u8 0, .int .u8 0, .int .u8 0, .int .u8 0, .int .u8 0, .int .u8 0, .int .u8 0, .int .u8 0, .int .u8 0, .int .u8 0, .int .u8 0, .int .u8 0, .int .u8 0, .int .u8 0, .int .u8 0, .int .u8 0, .int .u8 0, .int .u8 0, .int .u8 0, .int .u8 0, .int .u8 0, .int .u8 0, .int .u8 0, .int .u8 0, .int .u8 0, .int .u8 0, .int .u8 0, .int .u8 0, .int .u8 0]
def CallM (n : Nat) (L : List (List Nat)) (b q : ByteArray) (w : World) (e : Ending) (w' : World) : Prop :=
  ∃ c, e = .returned (.tuple #[.agg c, .bool (goodC n b && goodC n q)]) ∧ Below w.heap.size w w' ∧
    ((goodC n b && goodC n q) = true → ∃ a cap, c = callV (.slice a L.length cap) (rdf n) (hdK n L b q 0) (hdK n L b q 1) (hdK n L b q 2)) ∧ ((goodC n b && goodC n q) = false → c = zero33)
theorem Digs.prefix {W : World} {a : Option Addr} {m cap : Nat} {fs : List (Nat → Nat)} (h : Digs W (.slice a m cap) fs) (k : Nat) (hk : k ≤ fs.length) : Digs W (.slice a k cap) (fs.take k) := by
  obtain ⟨a', cap', hv, hcap, ha⟩ := h
  injection hv with e1 e2 e3
  subst e1 e3
  have hl : (fs.take k).length = k := by rw [List.length_take]; omega
  refine ⟨a, cap, by rw [hl], by rw [hl]; omega, fun h0 => ?_⟩
  rw [hl] at h0
  obtain ⟨g, off, rfl, hg, hc⟩ := ha (by omega)
  refine ⟨g, off, rfl, hg, fun i hi => ?_⟩
  rw [List.getElem_take]
  exact hc i (by rw [hl] at hi; omega)
/-- a row is stored in the midst of a block -/
theorem wpList_store8_at {ops : Array Oper} {rest : List Oper} {o : Oper} {a : Act} {w : World} {Q : Exit → Act → World → Prop} (hgd : o.guard = none) (x y : Operand) (ho : o.op = .store 87 x y)
    (g p : Nat) (T : TypeId) (cur new : Array Value) (f : Nat → Nat) (hrow : RowAt w g T cur) (hfit : p + 8 ≤ cur.size) (hnew : (cur.toList.take p ++ cells8 f ++ cur.toList.drop (p + 8)).toArray = new)
    (hx : a.eval x = .pointer (some ⟨g, p, none⟩)) (hy : a.eval y = .agg (dig8 f))
    (h : wpList Try.prog ops Q rest (a.put o.dst undef) (w.setRow g new)) : wpList Try.prog ops Q (o :: rest) a w := by
  subst hnew
  refine wpList_plain hgd fun _ hK => ?_
  unfold Oper.wp execOp
  simp only [ho, hx, hy, Instr.storeAt, Instr.sureAddr, Sem.run_bind, Sem.run_pure, Result.andThen_ok, run_storeVar8 w g p cur T f hrow hfit]
  exact hK _ _ h

theorem run_storeCells8 (w : World) (g : Nat) (cur : Array Value) (T : TypeId) (f : Nat → Nat) (hg : RowAt w g T cur) (hs : cur.size = 8) :
    (storeCells ⟨g, 0, none⟩ (dig8 f).toList).run Try.prog w = .ok () (w.setRow g (dig8 f)) := by
  have h1 := run_storeCells_at Try.prog g 0 T (cells8 f) 0 cur w hg (by rw [cells8_len]; omega) (cells8_one f)
  rw [cells8_len, Nat.add_zero] at h1
  have e : (cur.toList.take 0 ++ cells8 f ++ cur.toList.drop (0 + 8)).toArray = dig8 f := by
    rw [List.take_zero, List.nil_append, List.drop_eq_nil_of_le (by rw [Array.length_toList]; omega), List.append_nil, cells8_arr]
  rw [e] at h1
  exact h1

set_option maxRecDepth 100000 in
set_option maxHeartbeats 1000000 in
theorem callingOf_m (s : ByteArray) (hs : s.size ≤ maxLen) (n : Nat) (v : Value) (L : List (List Nat)) (b q : ByteArray) (w : World) (h : Txts w v L) (hl : L.length ≤ 2000000) (hg : goodM s n L = true) :
    Calls Try.prog 85 #[.agg #[.string s, .int .i64 n, v], .agg #[.string b, .string q]] w (CallM n L b q w) := by
  obtain ⟨a, cap, rfl, hcap, -⟩ := id h
  have HT := Lib.hid h
  obtain ⟨h3, h8, hrows, h40, h1⟩ := goodM_nat hg
  have hcl := chR_len n L
  rw [hcl] at h40 h1
  have HC := Lib.hid (fun w h => leadOf_yes s hs n (.slice a L.length cap) L w h hl hg)
  have HE := Lib.hid (fun w h => endings_any s n (.slice a L.length cap) L b q w h h40 h1)
  have HEND : Hid (∀ v w, Digs w v ((chR n L).take (L.length - 1)) → Calls Try.prog 136 #[v, .agg (dig8 (rdf n))] w fun e w' => e = .returned (.agg (dig8 (befF n L))) ∧ Below w.heap.size w w') := Lib.hid (fun v w h => by
    have e : (chR n L).take (L.length - 1) = chR n (L.take (L.length - 1)) := by simp [chR, List.map_take]
    rw [e] at h
    exact end_any n v _ (rdf n) (isRow_rdf h3 h8) (rows_take hg _) (by rw [chR_len, List.length_take]; omega) w h)
  have HG0 := Lib.hid (show goodC n (endC L b q 0) = true from goodAll_mem (goodM_parts hg).1 _ (last_mem h1))
  have HTM : Hid (∀ x w, goodC n x = true → Calls Try.prog 138 #[.agg (dig8 (befF n L)), .agg (dig8 (chF n x))] w fun e w' => e = .returned (.agg (dig8 (mulR n (befF n L) (chF n x)))) ∧ Below w.heap.size w w') := Lib.hid (fun x w hx => times_row n (befF n L) (chF n x) (isRow_bef hg) (chF_row hx) w)
  have HH0 := Lib.hid (show mulR n (befF n L) (chF n (endC L b q 0)) = hdK n L b q 0 from rfl)
  have HH1 := Lib.hid (show mulR n (befF n L) (chF n b) = hdK n L b q 1 from rfl)
  have HH2 := Lib.hid (show mulR n (befF n L) (chF n q) = hdK n L b q 2 from rfl)
  have HLM := Lib.hid hcl
  have HR0 := Lib.hid (((RowAt.new w 25 #[.string s, .int .i64 n, .slice a L.length cap]).push (.cells #[.string b, .string q] 27)).push (.cells zero33 92))
  have HK0 : Hid (RowAt (((w.alloc (.cells #[.string s, .int .i64 n, .slice a L.length cap] 25)).alloc (.cells #[.string b, .string q] 27)).alloc (.cells zero33 92)) (w.heap.size + 1) 27 #[.string b, .string q]) := Lib.hid (by
    have := (RowAt.new (w.alloc (.cells #[.string s, .int .i64 n, .slice a L.length cap] 25)) 27 #[.string b, .string q]).push (.cells zero33 92)
    simpa using this)
  have HZ0 : Hid (RowAt (((w.alloc (.cells #[.string s, .int .i64 n, .slice a L.length cap] 25)).alloc (.cells #[.string b, .string q] 27)).alloc (.cells zero33 92)) (w.heap.size + 1 + 1) 92 zero33) := Lib.hid (by
    have := RowAt.new ((w.alloc (.cells #[.string s, .int .i64 n, .slice a L.length cap] 25)).alloc (.cells #[.string b, .string q] 27)) 92 zero33
    simpa using this)
  have HB0 := Lib.hid ((((Below.refl _ w).alloc (Nat.le_refl _) (.cells #[.string s, .int .i64 n, .slice a L.length cap] 25)).alloc (by simp) (.cells #[.string b, .string q] 27)).alloc (by simp; omega) (.cells zero33 92))
  unfold CallM
  generalize hdK n L b q 0 = d0 at *
  generalize hdK n L b q 1 = d1 at *
  generalize hdK n L b q 2 = d2 at *
  generalize befF n L = bf at *
  generalize endC L b q 0 = t0 at *
  generalize rdf n = f at *
  generalize chR n L = cs at *
  unfold LeadYes at HC
  generalize hm : L.length = m at *
  obtain ⟨k, hk⟩ : ∃ k, m = k + 1 := ⟨m - 1, by omega⟩
  have hk2 : k ≤ 39 := by omega
  clear h hcap hg hl hrows h40 h1 hcl hm
  subst hk
  simp only [leadV, zero33] at *
  go_enter Try.func85, Try.ntmps85
  go_wp2_with (first | (refine wpList_load_row rfl 25 _ rfl _ rfl 25 _ _ _ (HR0.out) Try.underlying25 rfl (by kernel_rfl) ?_) | fail)
  refine (HC.out _ (HT.out.kept HB0.out)).mono ?_
  rintro e w1 ⟨u1, rfl, hn1, hb1⟩
  have HR1 := Lib.hid (HR0.out.kept hb1)
  have HK1 := Lib.hid (HK0.out.kept hb1)
  have HZ1 := Lib.hid (HZ0.out.kept hb1)
  have HB1 := Lib.hid (HB0.out.trans (hb1.mono HB0.out.size))
  have HN1 := Lib.hid hn1
  obtain ⟨a1, k1, rfl, hcap1, hsome⟩ := hn1.view HLM.out
  obtain ⟨g1, rfl⟩ := hsome (by omega)
  clear hsome
  clear hb1 hn1 HR0 HK0 HZ0 HB0
  have HB1s := Lib.hid HB1.out.size
  have HZ1lt := Lib.hid HZ1.out.lt
  obtain ⟨w3, hw3⟩ : ∃ w3, (w1.alloc (.cells (leadV (.slice (some ⟨g1, 0, none⟩) (k + 1) k1) f) 89)).alloc (.cells #[.slice (some ⟨g1, 0, none⟩) (k + 1) k1, .int .u8 (f 0), .int .u8 (f 1), .int .u8 (f 2), .int .u8 (f 3), .int .u8 (f 4), .int .u8 (f 5), .int .u8 (f 6), .int .u8 (f 7), .int .u8 0, .int .u8 0, .int .u8 0, .int .u8 0, .int .u8 0, .int .u8 0, .int .u8 0, .int .u8 0, .int .u8 0, .int .u8 0, .int .u8 0, .int .u8 0, .int .u8 0, .int .u8 0, .int .u8 0, .int .u8 0, .int .u8 0, .int .u8 0, .int .u8 0, .int .u8 0, .int .u8 0, .int .u8 0, .int .u8 0, .int .u8 0] 92) = w3 := ⟨_, rfl⟩
  have HAL : Hid (Below w1.heap.size w1 w3) := Lib.hid (by rw [← hw3]; exact ((Below.refl _ w1).alloc (Nat.le_refl _) _).alloc (by simp) _)
  have HL3 : Hid (RowAt w3 w1.heap.size 89 (leadV (.slice (some ⟨g1, 0, none⟩) (k + 1) k1) f)) := Lib.hid (by rw [← hw3]; exact (RowAt.new w1 _ _).push _)
  have HC3 : Hid (RowAt w3 (w1.heap.size + 1) 92 #[.slice (some ⟨g1, 0, none⟩) (k + 1) k1, .int .u8 (f 0), .int .u8 (f 1), .int .u8 (f 2), .int .u8 (f 3), .int .u8 (f 4), .int .u8 (f 5), .int .u8 (f 6), .int .u8 (f 7), .int .u8 0, .int .u8 0, .int .u8 0, .int .u8 0, .int .u8 0, .int .u8 0, .int .u8 0, .int .u8 0, .int .u8 0, .int .u8 0, .int .u8 0, .int .u8 0, .int .u8 0, .int .u8 0, .int .u8 0, .int .u8 0, .int .u8 0, .int .u8 0, .int .u8 0, .int .u8 0, .int .u8 0, .int .u8 0, .int .u8 0, .int .u8 0]) := Lib.hid (by rw [← hw3]; simpa using RowAt.new (w1.alloc (.cells (leadV (.slice (some ⟨g1, 0, none⟩) (k + 1) k1) f) 89)) 92 #[.slice (some ⟨g1, 0, none⟩) (k + 1) k1, .int .u8 (f 0), .int .u8 (f 1), .int .u8 (f 2), .int .u8 (f 3), .int .u8 (f 4), .int .u8 (f 5), .int .u8 (f 6), .int .u8 (f 7), .int .u8 0, .int .u8 0, .int .u8 0, .int .u8 0, .int .u8 0, .int .u8 0, .int .u8 0, .int .u8 0, .int .u8 0, .int .u8 0, .int .u8 0, .int .u8 0, .int .u8 0, .int .u8 0, .int .u8 0, .int .u8 0, .int .u8 0, .int .u8 0, .int .u8 0, .int .u8 0, .int .u8 0, .int .u8 0, .int .u8 0, .int .u8 0])
  have HR3 := Lib.hid (HR1.out.kept HAL.out)
  have HK3 := Lib.hid (HK1.out.kept HAL.out)
  have HZ3 := Lib.hid (HZ1.out.kept HAL.out)
  have HB3 := Lib.hid (HB1.out.trans (HAL.out.mono HB1.out.size))
  have HN3 := Lib.hid (HN1.out.kept HAL.out)
  have HW3 := Lib.hid hw3
  simp only [leadV] at HL3 HW3
  clear HR1 HK1 HZ1 HB1 HN1 hw3
  go_wp2_with (first | (refine wpList_store_row rfl 89 _ _ rfl _ _ rfl rfl 89 _ (heap_at _ _ _ (by simp)) (by kernel_rfl) rfl (by kernel_rfl) ?_; rw [setRow_at _ _ _ _ _ (by simp)]) | (refine wpList_load_row rfl 89 _ rfl _ rfl 89 _ _ _ ((RowAt.new w1 89 _)) Try.underlying89 rfl (by kernel_rfl) ?_) | (refine wpList_store_row rfl 92 _ _ rfl _ _ rfl rfl 92 _ (heap_at _ _ _ (by simp)) (by kernel_rfl) rfl (by kernel_rfl) ?_; rw [setRow_at _ _ _ _ _ (by simp)]) | fail)
  rw [HW3.out]
  simp only [Act.put, List.setIfInBounds_toArray, List.set_cons_zero, List.set_cons_succ]
  have hwp : IntKind.i64.wrap (k : Int) = (k : Int) := IntWalk.i64_in _ (by omega)
  have hk3 : (0 : Int) ≤ k := by omega
  have hk4 : (k : Int) ≤ k1 := by omega
  have hk5 : k ≤ k1 := by omega
  have HX3 : Hid (∀ W', Below w3.heap.size w3 W' → (W'.cell? ⟨w1.heap.size, 0, none⟩ = some (.slice (some ⟨g1, 0, none⟩) (k + 1) k1) ∧ W'.cell? ⟨w1.heap.size, 1, none⟩ = some (.int .u8 (f 0)) ∧ W'.cell? ⟨w1.heap.size, 2, none⟩ = some (.int .u8 (f 1)) ∧ W'.cell? ⟨w1.heap.size, 3, none⟩ = some (.int .u8 (f 2)) ∧ W'.cell? ⟨w1.heap.size, 4, none⟩ = some (.int .u8 (f 3)) ∧ W'.cell? ⟨w1.heap.size, 5, none⟩ = some (.int .u8 (f 4)) ∧ W'.cell? ⟨w1.heap.size, 6, none⟩ = some (.int .u8 (f 5)) ∧ W'.cell? ⟨w1.heap.size, 7, none⟩ = some (.int .u8 (f 6)) ∧ W'.cell? ⟨w1.heap.size, 8, none⟩ = some (.int .u8 (f 7)) ∧ Below w3.heap.size w3 W')) := Lib.hid (fun W' h => by
    have hr := HL3.out.keep h HL3.out.lt
    exact ⟨hr.cell 0 rfl, hr.cell 1 rfl, hr.cell 2 rfl, hr.cell 3 rfl, hr.cell 4 rfl, hr.cell 5 rfl, hr.cell 6 rfl, hr.cell 7 rfl, hr.cell 8 rfl, h⟩)
  have HEN : Hid (∀ W', Below w3.heap.size w3 W' → Calls Try.prog 136 #[.slice (some ⟨g1, 0, none⟩) k k1, .agg #[.int .u8 (f 0), .int .u8 (f 1), .int .u8 (f 2), .int .u8 (f 3), .int .u8 (f 4), .int .u8 (f 5), .int .u8 (f 6), .int .u8 (f 7)]] W' fun e w' => e = .returned (.agg (dig8 bf)) ∧ Below W'.heap.size W' w' ∧ Below w3.heap.size w3 w') := Lib.hid (fun W' h => by
    have hd := ((HN3.out.digs).kept h).prefix k (by rw [HLM.out]; omega)
    exact (HEND.out _ _ hd).mono fun e w' hw => ⟨hw.1, hw.2, h.trans (hw.2.mono h.size)⟩)
  have hS1 : ∀ W : World, (storeCells ⟨W.heap.size, 0, none⟩ (dig8 bf).toList).run Try.prog (W.alloc (.cells #[.int .u8 0, .int .u8 0, .int .u8 0, .int .u8 0, .int .u8 0, .int .u8 0, .int .u8 0, .int .u8 0] 87)) = .ok () (W.alloc (.cells (dig8 bf) 87)) := fun W => by
    exact (run_storeCells8 _ _ zero8 87 bf (heap_alloc_new _ _) rfl).trans (by rw [World.setRow_alloc_new])
  go_cut [9] (fun p w' => ∃ g, p = .pointer (some ⟨g, 0, none⟩) ∧ RowAt w' g 87 (dig8 bf) ∧ w3.heap.size ≤ g ∧ Below w3.heap.size w3 w')
  case first =>
    go_region_held3 (fun w' => w'.cell? ⟨w1.heap.size, 0, none⟩ = some (.slice (some ⟨g1, 0, none⟩) (k + 1) k1) ∧ w'.cell? ⟨w1.heap.size, 1, none⟩ = some (.int .u8 (f 0)) ∧ w'.cell? ⟨w1.heap.size, 2, none⟩ = some (.int .u8 (f 1)) ∧ w'.cell? ⟨w1.heap.size, 3, none⟩ = some (.int .u8 (f 2)) ∧ w'.cell? ⟨w1.heap.size, 4, none⟩ = some (.int .u8 (f 3)) ∧ w'.cell? ⟨w1.heap.size, 5, none⟩ = some (.int .u8 (f 4)) ∧ w'.cell? ⟨w1.heap.size, 6, none⟩ = some (.int .u8 (f 5)) ∧ w'.cell? ⟨w1.heap.size, 7, none⟩ = some (.int .u8 (f 6)) ∧ w'.cell? ⟨w1.heap.size, 8, none⟩ = some (.int .u8 (f 7)) ∧ Below w3.heap.size w3 w') (first | assumption | exact HX3.out _ (Below.refl _ _).drew | exact HX3.out _ ((Below.refl _ _).drew.alloc (by simp) _) | exact HX3.out _ (hb5.alloc hb5.size _) | exact HX3.out _ (below_setRow hb5 (Nat.le_refl _) _)) (first | (go_at_call 136; refine (HEN.out _ (Below.refl _ _).drew).mono ?_; rintro e5 w5 ⟨rfl, hc5, hb5⟩; have hS5 := HX3.out _ hb5) | (go_at_call 136; refine (HEN.out _ ((Below.refl _ _).drew.alloc (by simp) _)).mono ?_; rintro e5 w5 ⟨rfl, hc5, hb5⟩; have hS5 := HX3.out _ hb5; have hz5 := (RowAt.new w3.drew 87 zero8).kept hc5; have hS2 := run_storeCells8 _ _ _ _ bf hz5 rfl; simp only [show w3.drew.heap.size = w3.heap.size from rfl] at hS2) | fail)
    · go_wp2_with fail
      go_meet
      exact ⟨_, rfl, RowAt.new _ _ _, hb5.size, hb5.alloc hb5.size _⟩
    · go_wp2_with fail
      go_meet
      exact ⟨_, rfl, hz5.row _, Nat.le_refl _, below_setRow hb5 (Nat.le_refl _) _⟩
  case rest =>
    obtain ⟨g, rfl, hrow, hgle, hbc⟩ := hcut
    have HR4 := Lib.hid (HR3.out.kept hbc)
    have HK4 := Lib.hid (HK3.out.kept hbc)
    have HZ4 := Lib.hid (HZ3.out.kept hbc)
    have HC4 := Lib.hid (HC3.out.kept hbc)
    have HB4 := Lib.hid (HB3.out.trans (hbc.mono HB3.out.size))
    have HF4 := Lib.hid hrow
    have hcl3 := HC3.out.lt
    have HZlt := Lib.hid HZ1lt.out
    have hw31 : w1.heap.size + 1 ≠ g := by omega
    have hgw : w.heap.size ≤ g := by have := HB3.out.size; omega
    clear hrow hbc HR3 HK3 HZ3 HC3 HB3 HX3 HEN HEND HN3 HL3 HW3 HAL hS1 hwp hk4 hk5 hcap1
    go_wp2_with (first | (refine wpList_load_row rfl 25 _ rfl _ rfl 25 _ _ _ (HR4.out) Try.underlying25 rfl (by kernel_rfl) ?_) | (refine wpList_load_row rfl 27 _ rfl _ rfl 27 _ _ _ (HK4.out) Try.underlying27 rfl (by kernel_rfl) ?_) | fail)
    refine (HE.out _ (HT.out.kept HB4.out)).mono ?_
    rintro e w5 ⟨rfl, hb5⟩
    have HR5 := Lib.hid (HR4.out.kept hb5)
    have HZ5 := Lib.hid (HZ4.out.kept hb5)
    have HC5 := Lib.hid (HC4.out.kept hb5)
    have HF5 := Lib.hid (HF4.out.kept hb5)
    have HB5 := Lib.hid (HB4.out.trans (hb5.mono HB4.out.size))
    clear hb5 HR4 HK4 HZ4 HC4 HF4 HB4 HE HC
    have i0 : ∀ w, (Instr.index 78 (.agg #[.string t0, .string b, .string q]) (.int .i64 0)).run Try.prog w = .ok (.string t0) w := fun _ => by kernel_rfl
    have i1 : ∀ w, (Instr.index 78 (.agg #[.string t0, .string b, .string q]) (.int .i64 1)).run Try.prog w = .ok (.string b) w := fun _ => by kernel_rfl
    have i2 : ∀ w, (Instr.index 78 (.agg #[.string t0, .string b, .string q]) (.int .i64 2)).run Try.prog w = .ok (.string q) w := fun _ => by kernel_rfl
    go_wp2
    go_loopg [37] 3 (fun q' i wr => ∃ (j : Nat), q' + j = 3 ∧ i = .int .i64 j ∧ (1 < j → goodC n b = true) ∧ (2 < j → goodC n q = true) ∧ RowAt wr (w1.heap.size + 1) 92 (callV (.slice (some ⟨g1, 0, none⟩) (k + 1) k1) f (hzF j 0 d0) (hzF j 1 d1) (hzF j 2 d2)) ∧ RowAt wr w.heap.size 25 #[.string s, .int .i64 n, .slice a (k + 1) cap] ∧ RowAt wr g 87 (dig8 bf) ∧ RowAt wr (w.heap.size + 1 + 1) 92 zero33 ∧ Below w.heap.size w wr)
    case atStart => exact ⟨0, rfl, rfl, fun h => by omega, fun h => by omega, HC5.out, HR5.out, HF5.out, HZ5.out, HB5.out⟩
    case round =>
      clear HC5 HR5 HF5 HZ5 HB5
      obtain ⟨j, hq, rfl, hgb, hgq, hc, hr, hf, hz, hb⟩ := hrel
      have HC := Lib.hid hc
      have HR := Lib.hid hr
      have HF := Lib.hid hf
      have HZ := Lib.hid hz
      have HB := Lib.hid hb
      have HGB := Lib.hid hgb
      have HGQ := Lib.hid hgq
      have c1 := HR.out.cell 1 rfl
      clear hc hr hf hz hb hgb hgq
      have hcw : w1.heap.size + 1 ≠ w.heap.size := by have := HB1s.out; omega
      have hcg : w1.heap.size + 1 ≠ g := hw31
      have hcz : w1.heap.size + 1 ≠ w.heap.size + 1 + 1 := by have := HZlt.out; omega
      have hcw2 : w.heap.size ≤ w1.heap.size + 1 := by have := HB1s.out; omega
      have hj4 : j = 0 ∨ j = 1 ∨ j = 2 ∨ j = 3 := by omega
      rcases hj4 with rfl | rfl | rfl | rfl
      · obtain rfl : gk = 3 := by omega
        have HGT := HG0
        have HTMj := Lib.hid (fun w => HTM.out t0 w HG0.out)
        rw [HH0.out] at HTMj
        go_wp2_with fail
        refine (changeDigits_any n t0 _).mono ?_
        rintro e w6 ⟨rfl, hb6⟩
        rw [HG0.out]
        have HC6 := Lib.hid ((HC.out.kept hb6).push (.cells (dig8 (chF n t0)) 87))
        have HR6 := Lib.hid ((HR.out.kept hb6).push (.cells (dig8 (chF n t0)) 87))
        have HF6 := Lib.hid ((HF.out.kept hb6).push (.cells (dig8 (chF n t0)) 87))
        have HZ6 := Lib.hid ((HZ.out.kept hb6).push (.cells (dig8 (chF n t0)) 87))
        have HD6 := Lib.hid (RowAt.new w6 87 (dig8 (chF n t0)))
        have HB6 := Lib.hid ((HB.out.trans (hb6.mono HB.out.size)).alloc (HB.out.trans (hb6.mono HB.out.size)).size (.cells (dig8 (chF n t0)) 87))
        clear hb6 HC HR HF HZ HB c1
        go_wp2_with (first | (refine wpList_store_row rfl 87 _ _ rfl _ _ rfl rfl 87 _ (heap_at _ _ _ (by simp)) (by kernel_rfl) rfl (by kernel_rfl) ?_; rw [setRow_at _ _ _ _ _ (by simp)]) | (refine wpList_load_row rfl 87 _ rfl _ rfl 87 _ _ _ (HF6.out) Try.underlying87 rfl (by kernel_rfl) ?_) | (refine wpList_load_row rfl 87 _ rfl _ rfl 87 _ _ _ (HD6.out) Try.underlying87 rfl (by kernel_rfl) ?_) | fail)
        refine (HTMj.out _).mono ?_
        rintro e w7 ⟨rfl, hb7⟩
        have HC7 := Lib.hid (HC6.out.kept hb7)
        have HR7 := Lib.hid (HR6.out.kept hb7)
        have HF7 := Lib.hid (HF6.out.kept hb7)
        have HZ7 := Lib.hid (HZ6.out.kept hb7)
        have HB7 := Lib.hid (HB6.out.trans (hb7.mono HB6.out.size))
        clear hb7 HC6 HR6 HF6 HZ6 HB6 HD6
        go_wp2_with (first | (refine wpList_store8_at rfl _ _ rfl (w1.heap.size + 1) 9 92 _ (callV (.slice (some ⟨g1, 0, none⟩) (k + 1) k1) f (hzF 1 0 d0) (hzF 1 1 d1) (hzF 1 2 d2)) d0 HC7.out (show 9 + 8 ≤ 33 by omega) rfl rfl rfl ?_) | fail)
        go_roundg 2
        case measure => omega
        case rel => exact ⟨1, rfl, rfl, fun h => by omega, fun h => by omega, HC7.out.row _, HR7.out.rowOther _ (by omega), HF7.out.rowOther _ (by omega), HZ7.out.rowOther _ (by omega), below_setRow HB7.out (by omega) _⟩
      · obtain rfl : gk = 2 := by omega
        cases hgb : goodC n b
        · have HNB := Lib.hid hgb
          clear hgb
          go_wp2_with fail
          refine (changeDigits_any n b _).mono ?_
          rintro e w6 ⟨rfl, hb6⟩
          rw [HNB.out]
          have HZ6 := Lib.hid ((HZ.out.kept hb6).push (.cells (dig8 (chF n b)) 87))
          have HB6 := Lib.hid ((HB.out.trans (hb6.mono HB.out.size)).alloc (HB.out.trans (hb6.mono HB.out.size)).size (.cells (dig8 (chF n b)) 87))
          clear hb6 HC HR HF HZ HB c1
          simp only [zero33] at HZ6
          go_wp2_with (first | (refine wpList_store_row rfl 87 _ _ rfl _ _ rfl rfl 87 _ (heap_at _ _ _ (by simp)) (by kernel_rfl) rfl (by kernel_rfl) ?_; rw [setRow_at _ _ _ _ _ (by simp)]) | (refine wpList_store_row rfl 92 _ _ rfl _ _ rfl rfl 92 _ (HZ6.out) (by kernel_rfl) rfl (by kernel_rfl) ?_) | fail)
          exact bodyPost_ret (results_row_tmp rfl _ _ (w.heap.size + 1 + 1) 92 _ (0, 0) _ rfl (HZ6.out.row _) Try.underlying92 rfl (by kernel_rfl)) rfl ⟨zero33, by rw [HNB.out]; rfl, below_setRow HB6.out (by omega) _, (fun h => by rw [HNB.out] at h; cases h), fun _ => rfl⟩
        · have HYB := Lib.hid hgb
          clear hgb
          have HTMj := Lib.hid (fun w => HTM.out b w HYB.out)
          rw [HH1.out] at HTMj
          go_wp2_with fail
          refine (changeDigits_any n b _).mono ?_
          rintro e w6 ⟨rfl, hb6⟩
          rw [HYB.out]
          have HC6 := Lib.hid ((HC.out.kept hb6).push (.cells (dig8 (chF n b)) 87))
          have HR6 := Lib.hid ((HR.out.kept hb6).push (.cells (dig8 (chF n b)) 87))
          have HF6 := Lib.hid ((HF.out.kept hb6).push (.cells (dig8 (chF n b)) 87))
          have HZ6 := Lib.hid ((HZ.out.kept hb6).push (.cells (dig8 (chF n b)) 87))
          have HD6 := Lib.hid (RowAt.new w6 87 (dig8 (chF n b)))
          have HB6 := Lib.hid ((HB.out.trans (hb6.mono HB.out.size)).alloc (HB.out.trans (hb6.mono HB.out.size)).size (.cells (dig8 (chF n b)) 87))
          clear hb6 HC HR HF HZ HB c1
          go_wp2_with (first | (refine wpList_store_row rfl 87 _ _ rfl _ _ rfl rfl 87 _ (heap_at _ _ _ (by simp)) (by kernel_rfl) rfl (by kernel_rfl) ?_; rw [setRow_at _ _ _ _ _ (by simp)]) | (refine wpList_load_row rfl 87 _ rfl _ rfl 87 _ _ _ (HF6.out) Try.underlying87 rfl (by kernel_rfl) ?_) | (refine wpList_load_row rfl 87 _ rfl _ rfl 87 _ _ _ (HD6.out) Try.underlying87 rfl (by kernel_rfl) ?_) | fail)
          refine (HTMj.out _).mono ?_
          rintro e w7 ⟨rfl, hb7⟩
          have HC7 := Lib.hid (HC6.out.kept hb7)
          have HR7 := Lib.hid (HR6.out.kept hb7)
          have HF7 := Lib.hid (HF6.out.kept hb7)
          have HZ7 := Lib.hid (HZ6.out.kept hb7)
          have HB7 := Lib.hid (HB6.out.trans (hb7.mono HB6.out.size))
          clear hb7 HC6 HR6 HF6 HZ6 HB6 HD6
          go_wp2_with (first | (refine wpList_store8_at rfl _ _ rfl (w1.heap.size + 1) 17 92 _ (callV (.slice (some ⟨g1, 0, none⟩) (k + 1) k1) f (hzF 2 0 d0) (hzF 2 1 d1) (hzF 2 2 d2)) d1 HC7.out (show 17 + 8 ≤ 33 by omega) rfl rfl rfl ?_) | fail)
          go_roundg 1
          case measure => omega
          case rel => exact ⟨2, rfl, rfl, fun _ => HYB.out, fun h => by omega, HC7.out.row _, HR7.out.rowOther _ (by omega), HF7.out.rowOther _ (by omega), HZ7.out.rowOther _ (by omega), below_setRow HB7.out (by omega) _⟩
      · obtain rfl : gk = 1 := by omega
        have HYB := Lib.hid (HGB.out (by omega))
        cases hgq : goodC n q
        · have HNQ := Lib.hid hgq
          clear hgq
          go_wp2_with fail
          refine (changeDigits_any n q _).mono ?_
          rintro e w6 ⟨rfl, hb6⟩
          rw [HNQ.out]
          have HZ6 := Lib.hid ((HZ.out.kept hb6).push (.cells (dig8 (chF n q)) 87))
          have HB6 := Lib.hid ((HB.out.trans (hb6.mono HB.out.size)).alloc (HB.out.trans (hb6.mono HB.out.size)).size (.cells (dig8 (chF n q)) 87))
          clear hb6 HC HR HF HZ HB c1
          simp only [zero33] at HZ6
          go_wp2_with (first | (refine wpList_store_row rfl 87 _ _ rfl _ _ rfl rfl 87 _ (heap_at _ _ _ (by simp)) (by kernel_rfl) rfl (by kernel_rfl) ?_; rw [setRow_at _ _ _ _ _ (by simp)]) | (refine wpList_store_row rfl 92 _ _ rfl _ _ rfl rfl 92 _ (HZ6.out) (by kernel_rfl) rfl (by kernel_rfl) ?_) | fail)
          exact bodyPost_ret (results_row_tmp rfl _ _ (w.heap.size + 1 + 1) 92 _ (0, 0) _ rfl (HZ6.out.row _) Try.underlying92 rfl (by kernel_rfl)) rfl ⟨zero33, by rw [HNQ.out, Bool.and_false]; rfl, below_setRow HB6.out (by omega) _, (fun h => by rw [HNQ.out, Bool.and_false] at h; cases h), fun _ => rfl⟩
        · have HYQ := Lib.hid hgq
          clear hgq
          have HTMj := Lib.hid (fun w => HTM.out q w HYQ.out)
          rw [HH2.out] at HTMj
          go_wp2_with fail
          refine (changeDigits_any n q _).mono ?_
          rintro e w6 ⟨rfl, hb6⟩
          rw [HYQ.out]
          have HC6 := Lib.hid ((HC.out.kept hb6).push (.cells (dig8 (chF n q)) 87))
          have HR6 := Lib.hid ((HR.out.kept hb6).push (.cells (dig8 (chF n q)) 87))
          have HF6 := Lib.hid ((HF.out.kept hb6).push (.cells (dig8 (chF n q)) 87))
          have HZ6 := Lib.hid ((HZ.out.kept hb6).push (.cells (dig8 (chF n q)) 87))
          have HD6 := Lib.hid (RowAt.new w6 87 (dig8 (chF n q)))
          have HB6 := Lib.hid ((HB.out.trans (hb6.mono HB.out.size)).alloc (HB.out.trans (hb6.mono HB.out.size)).size (.cells (dig8 (chF n q)) 87))
          clear hb6 HC HR HF HZ HB c1
          go_wp2_with (first | (refine wpList_store_row rfl 87 _ _ rfl _ _ rfl rfl 87 _ (heap_at _ _ _ (by simp)) (by kernel_rfl) rfl (by kernel_rfl) ?_; rw [setRow_at _ _ _ _ _ (by simp)]) | (refine wpList_load_row rfl 87 _ rfl _ rfl 87 _ _ _ (HF6.out) Try.underlying87 rfl (by kernel_rfl) ?_) | (refine wpList_load_row rfl 87 _ rfl _ rfl 87 _ _ _ (HD6.out) Try.underlying87 rfl (by kernel_rfl) ?_) | fail)
          refine (HTMj.out _).mono ?_
          rintro e w7 ⟨rfl, hb7⟩
          have HC7 := Lib.hid (HC6.out.kept hb7)
          have HR7 := Lib.hid (HR6.out.kept hb7)
          have HF7 := Lib.hid (HF6.out.kept hb7)
          have HZ7 := Lib.hid (HZ6.out.kept hb7)
          have HB7 := Lib.hid (HB6.out.trans (hb7.mono HB6.out.size))
          clear hb7 HC6 HR6 HF6 HZ6 HB6 HD6
          go_wp2_with (first | (refine wpList_store8_at rfl _ _ rfl (w1.heap.size + 1) 25 92 _ (callV (.slice (some ⟨g1, 0, none⟩) (k + 1) k1) f (hzF 3 0 d0) (hzF 3 1 d1) (hzF 3 2 d2)) d2 HC7.out (show 25 + 8 ≤ 33 by omega) rfl rfl rfl ?_) | fail)
          go_roundg 0
          case measure => omega
          case rel => exact ⟨3, rfl, rfl, fun _ => HYB.out, fun _ => HYQ.out, HC7.out.row _, HR7.out.rowOther _ (by omega), HF7.out.rowOther _ (by omega), HZ7.out.rowOther _ (by omega), below_setRow HB7.out (by omega) _⟩
      · obtain rfl : gk = 0 := by omega
        have HYB := Lib.hid (HGB.out (by omega))
        have HYQ := Lib.hid (HGQ.out (by omega))
        have HC3 : Hid (RowAt wr (w1.heap.size + 1) 92 (callV (.slice (some ⟨g1, 0, none⟩) (k + 1) k1) f d0 d1 d2)) := HC
        clear HC
        simp only [callV] at HC3
        go_wp2_with (first | (refine wpList_load_row rfl 92 _ rfl _ rfl 92 _ _ _ (HC3.out) Try.underlying92 rfl (by kernel_rfl) ?_) | (refine wpList_store_row rfl 92 _ _ rfl _ _ rfl rfl 92 _ (HZ.out) (by kernel_rfl) rfl (by kernel_rfl) ?_) | fail)
        exact bodyPost_ret (results_row_tmp rfl _ _ (w.heap.size + 1 + 1) 92 _ (0, 0) _ rfl (HZ.out.row _) Try.underlying92 rfl (by kernel_rfl)) rfl ⟨callV (.slice (some ⟨g1, 0, none⟩) (k + 1) k1) f d0 d1 d2, by rw [HYB.out, HYQ.out]; rfl, below_setRow HB.out (by omega) _, fun _ _ => ⟨_, _, rfl⟩, fun h => by have h9 := h HYB.out; rw [HYQ.out] at h9; cases h9⟩

set_option maxRecDepth 100000 in
set_option maxHeartbeats 1000000 in
theorem callingOf_n (s : ByteArray) (hs : s.size ≤ maxLen) (n : Int) (v : Value) (L : List (List Nat)) (b q : ByteArray) (w : World) (h : Txts w v L) (hl : L.length ≤ 2000000) (hg : goodM s n L = false) :
    Calls Try.prog 85 #[.agg #[.string s, .int .i64 n, v], .agg #[.string b, .string q]] w fun e w' => e = .returned (.tuple #[.agg zero33, .bool false]) ∧ Below w.heap.size w w' := by
  obtain ⟨a, cap, rfl, hcap, -⟩ := id h
  have HT := Lib.hid h
  have HC := Lib.hid (fun w h => leadOf_no s hs n (.slice a L.length cap) L w h hl hg)
  have HR0 := Lib.hid (((RowAt.new w 25 #[.string s, .int .i64 n, .slice a L.length cap]).push (.cells #[.string b, .string q] 27)).push (.cells zero33 92))
  have HZ0 : Hid (RowAt (((w.alloc (.cells #[.string s, .int .i64 n, .slice a L.length cap] 25)).alloc (.cells #[.string b, .string q] 27)).alloc (.cells zero33 92)) (w.heap.size + 1 + 1) 92 zero33) := Lib.hid (by
    have := RowAt.new ((w.alloc (.cells #[.string s, .int .i64 n, .slice a L.length cap] 25)).alloc (.cells #[.string b, .string q] 27)) 92 zero33
    simpa using this)
  have HB0 := Lib.hid ((((Below.refl _ w).alloc (Nat.le_refl _) (.cells #[.string s, .int .i64 n, .slice a L.length cap] 25)).alloc (by simp) (.cells #[.string b, .string q] 27)).alloc (by simp; omega) (.cells zero33 92))
  generalize L.length = m at *
  clear h hcap hl hg
  simp only [zero33, zero9] at *
  go_enter Try.func85, Try.ntmps85
  go_wp2_with (first | (refine wpList_load_row rfl 25 _ rfl _ rfl 25 _ _ _ (HR0.out) Try.underlying25 rfl (by kernel_rfl) ?_) | fail)
  refine (HC.out _ (HT.out.kept HB0.out)).mono ?_
  rintro e w1 ⟨rfl, hb1⟩
  have HAL := (Below.refl w1.heap.size w1).alloc (Nat.le_refl _) (.cells zero9 89)
  have HZ1 := Lib.hid ((HZ0.out.kept hb1).kept HAL)
  have HB1 := Lib.hid ((HB0.out.trans (hb1.mono HB0.out.size)).trans (HAL.mono (HB0.out.trans (hb1.mono HB0.out.size)).size))
  clear hb1 HAL HR0 HZ0 HB0
  simp only [zero9] at HZ1 HB1
  go_wp2_with (first | (refine wpList_store_row rfl 89 _ _ rfl _ _ rfl rfl 89 _ (heap_at _ _ _ (by simp)) (by kernel_rfl) rfl (by kernel_rfl) ?_; rw [setRow_at _ _ _ _ _ (by simp)]) | (refine wpList_store_row rfl 92 _ _ rfl _ _ rfl rfl 92 _ (HZ1.out) (by kernel_rfl) rfl (by kernel_rfl) ?_) | fail)
  exact bodyPost_ret (results_row_tmp rfl _ _ (w.heap.size + 1 + 1) 92 _ (0, 0) _ rfl (HZ1.out.row _) Try.underlying92 rfl (by kernel_rfl)) rfl ⟨rfl, below_setRow HB1.out (by omega) _⟩

/-- a method with calls that is good -/
def CallYes (n : Nat) (m : Nat) (h0 h1 h2 : Nat → Nat) (w : World) (e : Ending) (w' : World) : Prop :=
  ∃ a cap, e = .returned (.tuple #[.agg (callV (.slice a m cap) (rdf n) h0 h1 h2), .bool true]) ∧ Below w.heap.size w w'
theorem callingOf_yes (s : ByteArray) (hs : s.size ≤ maxLen) (n : Nat) (v : Value) (L : List (List Nat)) (b q : ByteArray) (w : World) (h : Txts w v L) (hl : L.length ≤ 2000000) (hg : goodK s n L b q = true) :
    Calls Try.prog 85 #[.agg #[.string s, .int .i64 n, v], .agg #[.string b, .string q]] w (CallYes n L.length (hdK n L b q 0) (hdK n L b q 1) (hdK n L b q 2) w) :=
  (callingOf_m s hs n v L b q w h hl (goodK_parts hg).1).mono fun e w' hc => by
    obtain ⟨c, rfl, hb, hy, -⟩ := hc
    obtain ⟨-, h1, h2⟩ := goodK_parts hg
    obtain ⟨a, cap, rfl⟩ := hy (by rw [h1, h2]; rfl)
    exact ⟨a, cap, by rw [h1, h2]; rfl, hb⟩
theorem callingOf_no (s : ByteArray) (hs : s.size ≤ maxLen) (n : Int) (v : Value) (L : List (List Nat)) (b q : ByteArray) (w : World) (h : Txts w v L) (hl : L.length ≤ 2000000) (hg : goodK s n L b q = false) :
    Calls Try.prog 85 #[.agg #[.string s, .int .i64 n, v], .agg #[.string b, .string q]] w fun e w' => e = .returned (.tuple #[.agg zero33, .bool false]) ∧ Below w.heap.size w w' := by
  cases hm : goodM s n L
  · exact callingOf_n s hs n v L b q w h hl hm
  · obtain ⟨k, rfl⟩ : ∃ k : Nat, n = k := ⟨n.toNat, by have := goodAll_range (goodM_parts hm).1; omega⟩
    unfold goodK at hg
    rw [hm, Bool.true_and] at hg
    refine (callingOf_m s hs k v L b q w h hl hm).mono fun e w' hc => ?_
    obtain ⟨c, rfl, hb, -, hy⟩ := hc
    rw [hy hg, hg]
    exact ⟨rfl, hb⟩
end Go.Proofs.Ytkhglknpcajmiaa
