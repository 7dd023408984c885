/- StillBells in the program, and the law. -/
import Derived.Test.YtfocnflnpabmkaaD10
namespace Go.Proofs.Ytfocnflnpabmkaa
open Go.RowKit
set_option linter.unusedSimpArgs false
set_option linter.unusedVariables false

set_option maxRecDepth 100000 in
theorem slice_l8 {W : World} {a : Option Addr} {m cap : Nat} {fs : List (Nat → Nat)} (h : Digs W (.slice a m cap) fs) (k : Nat) (hk : k ≤ fs.length) :
    ∃ u, (∀ W', (Instr.sliceAt 75 (.slice a m cap) (some (.int .i64 k)) none none).run Try.prog W' = .ok u W') ∧ Digs W u (fs.drop k) := by
  obtain ⟨a', cap', hv, hcap, hc⟩ := h
  injection hv with e1 e2 e3
  subst e1 e2 e3
  refine ⟨.slice (if cap = k then a else a.map (·.add (k * 8))) (fs.length - k) (cap - k), fun W' => ?_, ?_⟩
  · rw [run_sliceAt_slice W' _ _ _ _ _ Try.underlying75, run_slice_l W' _ _ _ _ Try.underlying75 .i64 _ (by omega) (by omega), show (sizeOf (Try.prog.elem 75)).run Try.prog W' = .ok 8 W' by kernel_rfl]
    simp [Result.andThen, sliced]
  · have e : (fs.drop k).length = fs.length - k := by simp
    refine ⟨_, cap - k, by rw [e], by omega, fun h0 => ?_⟩
    rw [e] at h0
    obtain ⟨g, off, rfl, hg, hcc⟩ := hc (by omega)
    refine ⟨g, off + k * 8, ?_, hg, fun j hj => ?_⟩
    · rw [if_neg (by omega)]
      simp [add_at]
    · rw [e] at hj
      have := hcc (k + j) (by omega)
      rw [show off + k * 8 + j * 8 = off + (k + j) * 8 by omega]
      simpa using this
theorem mem_kept {n : Nat} {cs : List (Nat → Nat)} {x : Nat} (h : x ∈ keptL n cs) : 1 ≤ x ∧ x ≤ n := by
  unfold keptL at h
  simp only [List.mem_map, List.mem_filter, List.mem_range] at h
  obtain ⟨i, ⟨hi, _⟩, rfl⟩ := h
  omega

set_option maxRecDepth 100000 in
set_option maxHeartbeats 1000000 in
theorem kept_any (n : Nat) (v : Value) (cs : List (Nat → Nat)) (hc : Rows n cs) (h8 : n ≤ 8) (h1 : 1 ≤ cs.length) (hl : cs.length ≤ 40) (w : World) (h : Digs w v cs) :
    Calls Try.prog 88 #[v] w fun e w' => ∃ v', e = .returned v' ∧ New w.heap.size w' 3 v' (nums (keptL n cs)) ∧ Below w.heap.size w w' := by
  obtain ⟨m, hm⟩ : ∃ m, cs.length = m + 1 := ⟨cs.length - 1, by omega⟩
  obtain ⟨a, cap, rfl, hcap, ha⟩ := id h
  obtain ⟨g, off, rfl, hg, hcc⟩ := ha (by omega)
  obtain ⟨u, hu, hdu⟩ := slice_l8 h 1 h1
  rw [show ((1 : Nat) : Int) = 1 from rfl] at hu
  have hx0 := hcc 0 (by omega)
  rw [Nat.zero_mul, Nat.add_zero] at hx0
  have hr0 := hc _ (List.getElem_mem (show 0 < cs.length by omega))
  have htk : cs.take 1 = [cs[0]] := by
    rw [List.take_succ_eq_append_getElem (by omega)]; simp
  have hk0 : keptL n (cs.take 1) = home n cs[0] := by rw [htk, keptL_one]
  have hdl : (cs.drop 1).length = m := by simp; omega
  obtain ⟨a', cap', rfl, hcap', ha'⟩ := hdu
  rw [hdl] at hu hcap'
  have hdx : ∀ j, (hj : j < m) → (cs.drop 1)[j]'(by omega) = cs[j + 1]'(by omega) := fun j hj => by simp [Nat.add_comm]
  have HA : Hid (0 < m → ∃ g off, a' = some ⟨g, off, none⟩ ∧ g < w.heap.size ∧ ∀ i (hi : i + 1 < cs.length), w.rangeAt g (off + i * 8) (cells8 (cs[i + 1]'hi))) := Lib.hid (fun h0 => by
    obtain ⟨g, off, e, hg, hcc⟩ := ha' (by rw [hdl]; exact h0)
    refine ⟨g, off, e, hg, fun i hi => ?_⟩
    have := hcc i (by rw [hdl]; omega)
    rw [hdx i (by omega)] at this
    exact this)
  have HST : Hid (∀ j, (hj : j + 1 < cs.length) → keptL n (cs.take (j + 2)) = (keptL n (cs.take (j + 1))).filter (keepP (cs[j + 1]'hj))) := Lib.hid (fun j hj => by
    rw [List.take_succ_eq_append_getElem hj, keptL_snoc]
    rfl)
  obtain ⟨res, hres⟩ : ∃ res, keptL n cs = res := ⟨_, rfl⟩
  have hfin : keptL n (cs.take (m + 1)) = res := by rw [List.take_of_length_le (by omega), hres]
  have HFIN := Lib.hid hfin
  have HC : Hid (∀ j, (hj : j + 1 < cs.length) → IsRow n (cs[j + 1]'hj)) := Lib.hid (fun j hj => hc _ (List.getElem_mem _))
  have hm1 : (m : Int) ≤ 40 := by omega
  have HX0 := Lib.hid hx0
  have HK0 := Lib.hid hk0
  have HR0 := Lib.hid hr0
  have HM := Lib.hid hm
  have HHB := Lib.hid (fun w => homeBells_any n cs[0] hr0 w)
  rw [hres, hm]
  rw [hm] at hu
  generalize cs[0] = x0 at *
  clear ha ha' hcc hc h hcap hcap' hdx hk0 hr0 hx0 htk hdl hres hfin hl h1
  go_enter Try.func88, Try.ntmps88
  go_wp2_with (first | (refine wpList_load8 rfl _ rfl g off rfl x0 HX0.out ?_) | fail)
  refine (HHB.out _).mono ?_
  rintro e w1 ⟨v1, rfl, hn1, hb1⟩
  have HN1 := Lib.hid hn1
  have HB1 := Lib.hid hb1
  clear hn1 hb1
  go_wp2
  go_loopg [3, 5, 13] m (fun q pv _ ix wr => ∃ (j : Nat) (acc : List Nat), q + j = m ∧ ix = .int .i64 j ∧ keptL n (cs.take (j + 1)) = acc ∧ New w.heap.size wr 3 pv (nums acc) ∧ Below w.heap.size w wr)
  case atStart => exact ⟨0, _, by omega, rfl, HK0.out, HN1.out, HB1.out⟩
  case round =>
    clear HN1 HB1 HK0 HHB
    obtain ⟨j, acc, hq, rfl, hacc, hn, hb⟩ := hrel
    have HACC := Lib.hid hacc
    have HN := Lib.hid hn
    have HB := Lib.hid hb
    have hmem : ∀ x ∈ acc, 1 ≤ x ∧ x ≤ n := fun x hx => mem_kept (by rw [hacc]; exact hx)
    have hal : acc.length ≤ 8 := by rw [← hacc]; exact Nat.le_trans (keptL_len _ _) h8
    have HMEM := Lib.hid hmem
    clear hacc hn hb hmem
    by_cases hlt : j < m
    · obtain ⟨gb, ob, rfl, hgb, hc⟩ := HA.out (by omega)
      have hjc : j + 1 < cs.length := by have := HM.out; omega
      have hload := hc j hjc
      have hrow := HC.out j hjc
      have hst := HST.out j hjc
      rw [HACC.out] at hst
      generalize cs[j + 1]'hjc = x at *
      have HL : Hid (wr.rangeAt gb (ob + j * 8) (cells8 x)) := Lib.hid (fun k u hu => (HB.out.cell (p := ⟨gb, ob + j * 8 + k, none⟩) hgb).trans (hload k u hu))
      have HS2 := Lib.hid hst
      have HX := Lib.hid hrow
      have hji : (j : Int) < m := by omega
      have HBX := Lib.hid (HB.out.alloc HB.out.size (.cells (dig8 x) 77))
      have HNX := Lib.hid (HN.out.kept ((Below.refl _ _).alloc (Nat.le_refl _) (.cells (dig8 x) 77)))
      have HXX := Lib.hid (RowAt.new wr 77 (dig8 x))
      clear hc hload hrow hst HN HB
      obtain ⟨a9, c9, rfl, -⟩ := HNX.out.own.view
      rw [nums_len] at HNX ⊢
      go_wp2_with (first | (refine wpList_store_row rfl 77 _ _ rfl _ _ rfl rfl 77 _ (heap_at _ _ _ (by simp)) (by kernel_rfl) rfl (by kernel_rfl) ?_; rw [setRow_at _ _ _ _ _ (by simp)]) | (refine wpList_load8 rfl _ rfl gb (ob + j * 8) rfl x HL.out ?_) | fail)
      refine (deleteFunc_any n x HX.out wr.heap.size w.heap.size _ acc HMEM.out hal _ HBX.out.size HXX.out HNX.out).mono ?_
      rintro e w5 ⟨⟨v5, rfl, hn5⟩, hb5⟩
      have HN5 := Lib.hid hn5
      have HB5 := Lib.hid (HBX.out.trans hb5)
      clear hn5 hb5
      go_wp2
      go_roundg (m - (j + 1))
      case measure => omega
      case rel => exact ⟨j + 1, _, by omega, by go_num, HS2.out, HN5.out, HB5.out⟩
    · obtain rfl : j = m := by omega
      have hacc := HACC.out
      rw [HFIN.out] at hacc
      subst hacc
      have hji : ¬ (j : Int) < (j : Int) := by omega
      go_wp2
      go_ret
      exact ⟨_, rfl, HN.out, HB.out⟩

set_option maxRecDepth 100000 in
set_option maxHeartbeats 1000000 in
theorem iStillBells_no (s : ByteArray) (hs : s.size ≤ maxLen) (n : Int) (v : Value) (L : List (List Nat)) (w : World) (h : Txts w v L) (hl : L.length ≤ 2000000) (hg : goodM s n L = false) :
    Calls Try.prog 37 #[.agg #[.string s, .int .i64 n, v]] w (NumsAny [] false w) := by
  obtain ⟨a, cap, rfl, hcap, -⟩ := id h
  have HT := Lib.hid h
  have HR0 := Lib.hid (RowAt.new w 26 #[.string s, .int .i64 n, .slice a L.length cap])
  have HB0 := Lib.hid ((Below.refl _ w).alloc (Nat.le_refl _) (.cells #[.string s, .int .i64 n, .slice a L.length cap] 26))
  clear h hcap
  have HC := Lib.hid (fun w h => leadOf_no s hs n (.slice a L.length cap) L w h hl hg)
  clear hl hg
  generalize L.length = m at *
  go_enter Try.func37, Try.ntmps37
  go_wp2_with (first | (refine wpList_load_row rfl 26 _ rfl _ rfl 26 _ _ _ (HR0.out) Try.underlying26 rfl (by kernel_rfl) ?_) | fail)
  refine (HC.out _ (HT.out.kept HB0.out)).mono ?_
  rintro e w1 ⟨rfl, hb1⟩
  have HB1 := Lib.hid (HB0.out.trans (hb1.mono HB0.out.size))
  clear hb1
  simp only [zero9]
  go_wp2_with (first | (refine wpList_store_row rfl 79 _ _ rfl _ _ rfl rfl 79 _ (heap_at _ _ _ (by simp)) (by kernel_rfl) rfl (by kernel_rfl) ?_; rw [setRow_at _ _ _ _ _ (by simp)]) | fail)
  go_ret2
  exact ⟨_, rfl, New.nil _ _ _, HB1.out.alloc HB1.out.size _⟩

set_option maxRecDepth 100000 in
set_option maxHeartbeats 1000000 in
theorem iStillBells_yes (s : ByteArray) (hs : s.size ≤ maxLen) (n : Nat) (v : Value) (L : List (List Nat)) (w : World) (h : Txts w v L) (hl : L.length ≤ 2000000) (hg : goodM s n L = true) :
    Calls Try.prog 37 #[.agg #[.string s, .int .i64 n, v]] w (NumsAny (keptL n (chR n L)) true w) := by
  obtain ⟨a, cap, rfl, hcap, -⟩ := id h
  have HT := Lib.hid h
  have HR0 := Lib.hid (RowAt.new w 26 #[.string s, .int .i64 n, .slice a L.length cap])
  have HB0 := Lib.hid ((Below.refl _ w).alloc (Nat.le_refl _) (.cells #[.string s, .int .i64 n, .slice a L.length cap] 26))
  have HC := Lib.hid (fun w h => leadOf_yes s hs n (.slice a L.length cap) L w h hl hg)
  obtain ⟨h3, h8, hrows, h40, h1⟩ := goodM_nat hg
  generalize rdf n = f at *
  generalize chR n L = cs at *
  have HK := Lib.hid (fun v w h => kept_any n v cs hrows h8 h1 h40 w h)
  generalize keptL n cs = res at *
  clear hl hg h hcap
  generalize L.length = m at *
  go_enter Try.func37, Try.ntmps37
  go_wp2_with (first | (refine wpList_load_row rfl 26 _ rfl _ rfl 26 _ _ _ (HR0.out) Try.underlying26 rfl (by kernel_rfl) ?_) | fail)
  refine (HC.out _ (HT.out.kept HB0.out)).mono ?_
  rintro e w1 ⟨u1, rfl, hn1, hb1⟩
  have HB1 := Lib.hid (HB0.out.trans (hb1.mono HB0.out.size))
  have HN1 := Lib.hid hn1
  obtain ⟨a1, k1, rfl, -, -⟩ := hn1.view rfl
  clear hb1 hn1
  have HL2 := Lib.hid (RowAt.new w1 79 (leadV (.slice a1 cs.length k1) f))
  have HB2 := Lib.hid (HB1.out.alloc HB1.out.size (.cells (leadV (.slice a1 cs.length k1) f) 79))
  have HN2 := Lib.hid (HN1.out.kept ((Below.refl _ _).alloc (Nat.le_refl _) (.cells (leadV (.slice a1 cs.length k1) f) 79)))
  have c0 := HL2.out.cell 0 rfl
  obtain ⟨l1, hl1⟩ : ∃ l1, cs.length = l1 := ⟨_, rfl⟩
  rw [hl1] at HL2 HB2 HN2 c0 ⊢
  clear HB1 HN1 hrows h40 h1 hl1
  simp only [leadV] at HL2 HB2 HN2 c0 ⊢
  go_wp2_with (first | (refine wpList_store_row rfl 79 _ _ rfl _ _ rfl rfl 79 _ (heap_at _ _ _ (by simp)) (by kernel_rfl) rfl (by kernel_rfl) ?_; rw [setRow_at _ _ _ _ _ (by simp)]) | fail)
  refine (HK.out _ _ HN2.out.digs).mono ?_
  rintro e w3 ⟨v3, rfl, hn3, hb3⟩
  have HB3 := Lib.hid (HB2.out.trans (hb3.mono HB2.out.size))
  have HN3 := Lib.hid (hn3.lower HB2.out.size)
  clear hb3 hn3
  go_wp2
  go_ret2
  exact ⟨_, rfl, HN3.out, HB3.out⟩

set_option maxRecDepth 100000 in
set_option maxHeartbeats 1000000 in
theorem sStillBells_no (s : ByteArray) (hs : s.size ≤ maxLen) (n : Int) (v : Value) (L : List (List Nat)) (w : World) (h : Txts w v L) (hl : L.length ≤ 2000000) (hsm : Small L) (hg : goodM s n L = false) :
    Calls Try.prog 38 #[.agg #[.string s, .int .i64 n, v]] w (NumsAny [] false w) := by
  obtain ⟨a, cap, rfl, hcap, -⟩ := id h
  have HT := Lib.hid h
  have HR0 := Lib.hid (RowAt.new w 26 #[.string s, .int .i64 n, .slice a L.length cap])
  have HB0 := Lib.hid ((Below.refl _ w).alloc (Nat.le_refl _) (.cells #[.string s, .int .i64 n, .slice a L.length cap] 26))
  have HG := Lib.hid (fun w h => l4Good_any s hs n (.slice a L.length cap) L w h hl hsm)
  rw [hg] at HG
  clear h hcap hl hsm hg
  generalize L.length = m at *
  go_enter Try.func38, Try.ntmps38
  go_wp2_with (first | (refine wpList_load_row rfl 26 _ rfl _ rfl 26 _ _ _ (HR0.out) Try.underlying26 rfl (by kernel_rfl) ?_) | fail)
  refine (HG.out _ (HT.out.kept HB0.out)).mono ?_
  rintro e w1 ⟨rfl, hb1⟩
  have HB1 := Lib.hid (HB0.out.trans (hb1.mono HB0.out.size))
  go_wp2
  go_ret2
  exact ⟨_, rfl, New.nil _ _ _, HB1.out⟩
theorem bothStillBells (s : ByteArray) (hs : s.size ≤ maxLen) (n : Int) (L : List (List Nat)) (hl : L.length ≤ 2000000) (hsm : Small L) :
    ∃ (P : List Int) (b : Bool), P.length ≤ 1000 ∧ (∀ u w, Txts w u L → Calls Try.prog 37 #[.agg #[.string s, .int .i64 n, u]] w (IntsAny P b w)) ∧
      (∀ u w, Txts w u L → Calls Try.prog 38 #[.agg #[.string s, .int .i64 n, u]] w (IntsAny P b w)) := by
  cases hg : goodM s n L
  · exact ⟨([] : List Nat).map fun (k : Nat) => (k : Int), _, by simp, fun u w h => iStillBells_no s hs n u L w h hl hg, fun u w h => sStillBells_no s hs n u L w h hl hsm hg⟩
  · obtain ⟨k, rfl⟩ := good_cast hg
    have h9 := goodM_nat hg
    refine ⟨(keptL k (chR k L)).map fun (k : Nat) => (k : Int), _, ?_, fun u w h => iStillBells_yes s hs k u L w h hl hg, fun u w h => ?_⟩
    · have := keptL_len k (chR k L)
      simp
      omega
    · have := sStillBells_yes s hs k u L w h hl hsm hg
      rw [still_kept h9.1 h9.2.1 h9.2.2.1] at this
      exact this

set_option maxRecDepth 100000 in
set_option maxHeartbeats 1000000 in
theorem lawStillBells (s : ByteArray) (n : Int) (v : Value) (ss : List ByteArray) (W : World) (hsz : s.size ≤ maxLen) (hA : Arg W v ss) (hy : ss.length ≤ maxLen ∧ ∀ t ∈ ss, t.size ≤ maxLen) :
    Calls Try.prog 13 #[.agg #[.string s, .int .i64 n, v]] W fun e w' => e = .returned (.bool true) ∧ Below W.heap.size W w' := by
  obtain ⟨a, cap, rfl, -⟩ := id hA
  have HB : Hid (s.size ≤ 1048576 → ss.length ≤ 1048576 → (∀ t ∈ ss, t.size ≤ 1048576) → _) := Lib.hid (fun h1 h2 h3 => bothStillBells s (by simp only [maxLen]; omega) n (letss ss) (by rw [letss_len]; omega) (small_letss hy.2))
  have HSZ : Hid (∀ w, Arg w (.slice a ss.length cap) ss → Calls Try.prog 44 #[.agg #[.string s, .int .i64 n, .slice a ss.length cap], .int .i64 1048576] w _) := Lib.hid (fun w h => szMethod_any s hsz n (.slice a ss.length cap) ss w h hy.1 hy.2 1048576 (by omega) (by omega))
  have HTO : Hid (ss.length ≤ 1048576 → ∀ w, Arg w (.slice a ss.length cap) ss → Calls Try.prog 46 #[.agg #[.string s, .int .i64 n, .slice a ss.length cap]] w (MethOut s n (letss ss) w)) := Lib.hid (fun h2 w h => toMethod_any s n (.slice a ss.length cap) ss w h (by omega))
  have HLL := Lib.hid (letss_len ss)
  have HA := Lib.hid hA
  have HSS : Hid (ss.length = ss.length) := Lib.hid rfl
  have HR0 := Lib.hid (RowAt.new W 52 #[.string s, .int .i64 n, .slice a ss.length cap])
  have HB0 := Lib.hid ((Below.refl _ W).alloc (Nat.le_refl _) (.cells #[.string s, .int .i64 n, .slice a ss.length cap] 52))
  unfold MethOut at HTO
  generalize letss ss = L at *
  generalize hm : ss.length = m at *
  have HMM := Lib.hid hm
  clear hA hy hsz hm
  go_enter Try.func13, Try.ntmps13
  go_wp2_with (first | (refine wpList_load_row rfl 52 _ rfl _ rfl 52 _ _ _ (HR0.out) Try.underlying52 rfl (by kernel_rfl) ?_) | fail)
  refine (HSZ.out _ (HA.out.kept HB0.out)).mono ?_
  rintro e w1 ⟨z, rfl, hz0, hz1, hz2, hb1⟩
  have HR1 := Lib.hid (HR0.out.kept hb1)
  have HB1 := Lib.hid (HB0.out.trans (hb1.mono HB0.out.size))
  clear HR0 HB0 hb1 HSZ
  by_cases hneg : z < 0
  · clear hz2
    go_wp2
    go_ret
    exact ⟨rfl, HB1.out⟩
  have hz3 := hz2 (by omega)
  obtain ⟨hs1, hs2, hs3⟩ := hz3
  have hm2 : m ≤ 1048576 := by omega
  have HTO2 := Lib.hid (HTO.out hm2)
  have hboth := HB.out (by omega) (by omega) (fun t ht => by have := hs3 t ht; omega)
  clear HB HTO hz2 hs1 hs2 hs3
  obtain ⟨P, flag, hpl, hI, hS⟩ := hboth
  have HI := Lib.hid hI
  have HS := Lib.hid hS
  clear hI hS
  obtain ⟨p, hp⟩ : ∃ p, P.length = p := ⟨_, rfl⟩
  rw [hp] at hpl
  have HPL := Lib.hid hp
  clear hp
  unfold IntsAny at HI HS
  go_wp2_with (first | (refine wpList_load_row rfl 52 _ rfl _ rfl 52 _ _ _ (HR1.out) Try.underlying52 rfl (by kernel_rfl) ?_) | fail)
  refine (HTO2.out _ (HA.out.kept HB1.out)).mono ?_
  rintro e w2 ⟨v2, rfl, hn2, hb2⟩
  have HR2 := Lib.hid (HR1.out.kept hb2)
  have HB2 := Lib.hid (HB1.out.trans (hb2.mono HB1.out.size))
  have HT2 := Lib.hid hn2.own.txts
  clear HR1 HB1 hn2 hb2
  go_wp2_with fail
  refine (HS.out _ _ HT2.out).mono ?_
  rintro e w3 ⟨v3, rfl, hn3, hb3⟩
  have HP3 := Lib.hid hn3.own
  have HLT3 := Lib.hid hn3.own.lt
  have HW3 := Lib.hid (Nat.le_refl w3.heap.size)
  clear hn3
  have HR3 := Lib.hid (HR2.out.kept hb3)
  have HB3 := Lib.hid (HB2.out.trans (hb3.mono HB2.out.size))
  clear HR2 HB2 hb3 HT2
  go_wp2_with (first | (refine wpList_load_row rfl 52 _ rfl _ rfl 52 _ _ _ (HR3.out) Try.underlying52 rfl (by kernel_rfl) ?_) | fail)
  refine (HTO2.out _ (HA.out.kept HB3.out)).mono ?_
  rintro e w4 ⟨v4, rfl, hn4, hb4⟩
  have HP4 := Lib.hid (HP3.out.kept hb4)
  have HW4 := Lib.hid hb4.size
  have HR4 := Lib.hid (HR3.out.kept hb4)
  have HB4 := Lib.hid (HB3.out.trans (hb4.mono HB3.out.size))
  have HN4 := Lib.hid hn4
  have HLT4 := Lib.hid hn4.own.lt
  obtain ⟨a4, k4, rfl, -⟩ := hn4.own.view
  rw [strs_len, HLL.out] at HN4 ⊢
  have HB3s := Lib.hid HB3.out.size
  have HR3lt := Lib.hid HR3.out.lt
  clear HR3 HB3 hn4 hb4 HP3 HW3
  go_wp2_with (first | (refine wpList_store_row rfl 26 _ _ rfl _ _ rfl rfl 26 _ (heap_alloc_new _ _) (by kernel_rfl) rfl (by kernel_rfl) ?_; rw [World.setRow_alloc_new]) | fail)
  have HX5 := Lib.hid (RowAt.new w4 26 #[.string s, .int .i64 n, .slice a4 m k4])
  have HR5 := Lib.hid (HR4.out.push (.cells #[.string s, .int .i64 n, .slice a4 m k4] 26))
  have HB5 := Lib.hid (HB4.out.alloc HB4.out.size (.cells #[.string s, .int .i64 n, .slice a4 m k4] 26))
  have HN5 := Lib.hid (HN4.out.kept ((Below.refl _ _).alloc (Nat.le_refl _) (.cells #[.string s, .int .i64 n, .slice a4 m k4] 26)))
  have HP5 := Lib.hid (HP4.out.kept ((Below.refl _ _).alloc (Nat.le_refl _) (.cells #[.string s, .int .i64 n, .slice a4 m k4] 26)))
  have HW5 := Lib.hid (Nat.le_trans HW4.out ((Below.refl w4.heap.size _).alloc (Nat.le_refl _) (.cells #[.string s, .int .i64 n, .slice a4 m k4] 26)).size)
  have HW35 := Lib.hid HW5.out
  have HLT5 : Hid (∀ g, (Value.slice a4 m k4).ownBlock = some g → g < (w4.alloc (.cells #[.string s, .int .i64 n, .slice a4 m k4] 26)).heap.size) := Lib.hid (fun g hg => HN5.out.own.lt g hg)
  clear HR4 HB4 HN4 HP4 HW4
  generalize w4.alloc (.cells #[.string s, .int .i64 n, .slice a4 m k4] 26) = w5 at *
  refine (HI.out _ _ HN5.out.own.txts).mono ?_
  rintro e w5b ⟨v6, rfl, hn6, hb6⟩
  have HX5b := Lib.hid (HX5.out.kept hb6)
  have HR5b := Lib.hid (HR5.out.kept hb6)
  have HB5b := Lib.hid (HB5.out.trans (hb6.mono HB5.out.size))
  have HN5b := Lib.hid (HN5.out.kept hb6)
  have HP5b := Lib.hid (HP5.out.kept hb6)
  have HW5b := Lib.hid (Nat.le_trans HW5.out hb6.size)
  have HV5b := Lib.hid hb6.size
  have HQ5b := Lib.hid hn6
  clear HX5 HR5 HB5 HN5 hb6 HP5 HW5 hn6
  go_wp2_with fail
  refine (eqIntS_same v6 v3 P _ HQ5b.out.own HP5b.out (by rw [HPL.out]; omega)).mono ?_
  rintro e w6 ⟨rfl, d6, hd6⟩
  have HX6 : Hid (RowAt w6 w4.heap.size 26 #[.string s, .int .i64 n, .slice a4 m k4]) := by rw [hd6]; exact HX5b.out.drewN d6
  have HR6 : Hid (RowAt w6 W.heap.size 52 #[.string s, .int .i64 n, .slice a m cap]) := by rw [hd6]; exact HR5b.out.drewN d6
  have HB6 : Hid (Below W.heap.size W w6) := by rw [hd6]; exact below_drewN HB5b.out _
  have HN6 : Hid (New w3.heap.size w6 9 (.slice a4 m k4) (strs L)) := by rw [hd6]; exact HN5b.out.drewN _
  have HP6 : Hid (Own w6 3 v3 (ints P)) := by rw [hd6]; exact HP5b.out.drewN _
  have HQ6 : Hid (New w5.heap.size w6 3 v6 (ints P)) := by rw [hd6]; exact HQ5b.out.drewN _
  have HW6 : Hid (w3.heap.size ≤ w6.heap.size) := by rw [hd6]; exact HW5b
  have HV6 : Hid (w5.heap.size ≤ w6.heap.size) := by rw [hd6]; exact HV5b
  clear hd6 HX5b HR5b HB5b HN5b HP5b HQ5b HW5b HV5b
  go_wp2
  have hltx := HX6.out.lt
  have hltr := HR6.out.lt
  have HX6A : Hid (∀ W', Below w6.heap.size w6 W' → (W'.cell? ⟨w4.heap.size, 0, none⟩ = some (.string s) ∧ W'.cell? ⟨w4.heap.size, 1, none⟩ = some (.int .i64 n) ∧ W'.cell? ⟨w4.heap.size, 2, none⟩ = some (.slice a4 m k4) ∧ W'.cell? ⟨W.heap.size, 0, none⟩ = some (.string s) ∧ W'.cell? ⟨W.heap.size, 1, none⟩ = some (.int .i64 n) ∧ W'.cell? ⟨W.heap.size, 2, none⟩ = some (.slice a m cap) ∧ Below w6.heap.size w6 W')) := Lib.hid (fun W' h => by
    have hx := HX6.out.keep h hltx
    have hr := HR6.out.keep h hltr
    exact ⟨hx.cell 0 rfl, hx.cell 1 rfl, hx.cell 2 rfl, hr.cell 0 rfl, hr.cell 1 rfl, hr.cell 2 rfl, h⟩)
  have HTO7 : Hid (∀ W', Below w6.heap.size w6 W' → Calls Try.prog 46 #[.agg #[.string s, .int .i64 n, .slice a m cap]] W' fun e w' => (∃ a7 k7, e = .returned (.agg #[.string s, .int .i64 n, .slice a7 m k7]) ∧ Own w' 9 (.slice a7 m k7) (strs L)) ∧ Below w6.heap.size w6 w') := Lib.hid (fun W' h => (HTO2.out W' (HA.out.kept (HB6.out.trans (h.mono HB6.out.size)))).mono fun e w' hw => by
    obtain ⟨v7, rfl, hn7, hb7⟩ := hw
    obtain ⟨a7, k7, rfl, -⟩ := hn7.own.view
    have ho := hn7.own
    rw [strs_len, HLL.out] at ho ⊢
    exact ⟨⟨a7, k7, rfl, ho⟩, h.trans (hb7.mono h.size)⟩)
  have HEQ7 : Hid (∀ W' a7 k7, Below w6.heap.size w6 W' → Own W' 9 (.slice a7 m k7) (strs L) → Calls Try.prog 48 #[.agg #[.string s, .int .i64 n, .slice a4 m k4], .agg #[.string s, .int .i64 n, .slice a7 m k7]] W' fun e w' => e = .returned (.bool true) ∧ Below w6.heap.size w6 w') := Lib.hid (fun W' a7 k7 h ho => (eqMethod_same s n _ _ L W' (HN6.out.kept h).own ho (by rw [HLL.out]; omega)).mono fun e w' hw => ⟨hw.1, h.trans (hw.2.mono h.size)⟩)
  clear hltx hltr
  go_region_held3 (fun w' => w'.cell? ⟨w4.heap.size, 0, none⟩ = some (.string s) ∧ w'.cell? ⟨w4.heap.size, 1, none⟩ = some (.int .i64 n) ∧ w'.cell? ⟨w4.heap.size, 2, none⟩ = some (.slice a4 m k4) ∧ w'.cell? ⟨W.heap.size, 0, none⟩ = some (.string s) ∧ w'.cell? ⟨W.heap.size, 1, none⟩ = some (.int .i64 n) ∧ w'.cell? ⟨W.heap.size, 2, none⟩ = some (.slice a m cap) ∧ Below w6.heap.size w6 w') (first | assumption | exact HX6A.out _ (Below.refl _ _).drew) (first | (go_at_call 46; refine (HTO7.out _ (by first | exact (Below.refl _ _).drew | exact Below.refl _ _)).mono ?_; rintro e7 w7 ⟨⟨a7, k7, rfl, ho7⟩, hb7⟩; have hS7 := HX6A.out _ hb7) | (go_at_call 48; refine (HEQ7.out _ _ _ hb7 ho7).mono ?_; rintro e8 w8 ⟨rfl, hb8⟩; have hS8 := HX6A.out _ hb8) | fail)
  have HX8 := Lib.hid (HX6.out.kept hb8)
  have HR8 := Lib.hid (HR6.out.kept hb8)
  have HB8 := Lib.hid (HB6.out.trans (hb8.mono HB6.out.size))
  have HN8 := Lib.hid (HN6.out.kept hb8)
  have HP8 := Lib.hid (HP6.out.kept hb8)
  have HQ8 := Lib.hid (HQ6.out.kept hb8)
  have HW8 := Lib.hid (Nat.le_trans HW6.out hb8.size)
  have HV8 := Lib.hid (Nat.le_trans HV6.out hb8.size)
  clear HX6 HR6 HB6 HN6 HP6 HQ6 HW6 HV6 hS8 hS7 hb8 hb7 ho7 HX6A HTO7 HEQ7
  go_wp2_with (first | (refine wpList_load_row rfl 26 _ rfl _ rfl 26 _ _ _ (HX8.out) Try.underlying26 rfl (by kernel_rfl) ?_) | fail)
  refine (markMethod_any s n w3.heap.size (.slice a4 m k4) L _ HN8.out HW8.out (by rw [HLL.out]; omega)).mono ?_
  rintro e w9 ⟨rfl, -, hb9, hk9⟩
  rw [HLL.out]
  have HR9 := Lib.hid (HR8.out.keep hb9 HR3lt.out)
  have HB9 := Lib.hid (HB8.out.trans (hb9.mono HB3s.out))
  have HP9 := Lib.hid (HP8.out.under HLT3.out hb9)
  have HQ9 : Hid (New w5.heap.size w9 3 v6 (ints P)) := Lib.hid ⟨HQ8.out.own.besides hk9 (fun g hg h4 => by
    have := HQ8.out.base g hg
    have := HLT5.out g h4
    omega), HQ8.out.base⟩
  have HW9 := Lib.hid (Nat.le_trans HW8.out hb9.size)
  have HV9 := Lib.hid (Nat.le_trans HV8.out hb9.size)
  have hmm : ¬ ((1 : Int) + (m : Nat) < 0) := by omega
  clear HX8 HR8 HB8 HN8 HP8 HQ8 HW8 HV8 hb9 hk9
  go_wp2_with fail
  refine (eqIntS_same v6 v3 P _ HQ9.out.own HP9.out (by rw [HPL.out]; omega)).mono ?_
  rintro e w10 ⟨rfl, d10, hd10⟩
  have HR10 : Hid (RowAt w10 W.heap.size 52 #[.string s, .int .i64 n, .slice a m cap]) := by rw [hd10]; exact HR9.out.drewN d10
  have HB10 : Hid (Below W.heap.size W w10) := by rw [hd10]; exact below_drewN HB9.out _
  have HP10 : Hid (Own w10 3 v3 (ints P)) := by rw [hd10]; exact HP9.out.drewN _
  have HQ10 : Hid (New w5.heap.size w10 3 v6 (ints P)) := by rw [hd10]; exact HQ9.out.drewN _
  have HW10 : Hid (w3.heap.size ≤ w10.heap.size) := by rw [hd10]; exact HW9
  have HV10 : Hid (w5.heap.size ≤ w10.heap.size) := by rw [hd10]; exact HV9
  clear hd10 HR9 HB9 HP9 HQ9 HW9 HV9
  go_wp2_with fail
  refine (markInts w5.heap.size v6 P _ HQ10.out HV10.out (by rw [HPL.out]; omega)).mono ?_
  rintro e w11 ⟨rfl, ho11, hb11⟩
  rw [HPL.out] at ho11 ⊢
  have HM11 := Lib.hid ho11
  have HR11 := Lib.hid (HR10.out.keep hb11 (Nat.lt_of_lt_of_le HR3lt.out HW35.out))
  have HB11 := Lib.hid (HB10.out.trans (hb11.mono (Nat.le_trans HB3s.out HW35.out)))
  have HP11 := Lib.hid (HP10.out.under (fun g hg => Nat.lt_of_lt_of_le (HLT3.out g hg) HW35.out) hb11)
  have hpp : ¬ ((1 : Int) + (p : Nat) < 0) := by omega
  clear ho11 hb11 HR10 HB10 HP10 HQ10 HW10 HV10
  go_wp2_with fail
  refine (heldInts v6 p _ HM11.out (by omega)).mono ?_
  rintro e w12 ⟨rfl, hb12⟩
  have HM12 := Lib.hid (HM11.out.kept hb12)
  have HR12 := Lib.hid (HR11.out.kept hb12)
  have HB12 := Lib.hid (HB11.out.trans (hb12.mono HB11.out.size))
  have HP12 := Lib.hid (HP11.out.kept hb12)
  clear hb12 HM11 HR11 HB11 HP11
  go_wp2_with (first | (refine wpList_load_row rfl 52 _ rfl _ rfl 52 _ _ _ (HR12.out) Try.underlying52 rfl (by kernel_rfl) ?_) | fail)
  refine (HTO2.out _ (HA.out.kept HB12.out)).mono ?_
  rintro e w13 ⟨v13, rfl, hn13, hb13⟩
  have HM13 := Lib.hid (HM12.out.kept hb13)
  have HB13 := Lib.hid (HB12.out.trans (hb13.mono HB12.out.size))
  have HP13 := Lib.hid (HP12.out.kept hb13)
  have HT13 := Lib.hid hn13.own.txts
  clear hb13 hn13 HM12 HR12 HB12 HP12
  go_wp2_with fail
  refine (HI.out _ _ HT13.out).mono ?_
  rintro e w14 ⟨v14, rfl, hn14, hb14⟩
  have HM14 := Lib.hid (HM13.out.kept hb14)
  have HB14 := Lib.hid (HB13.out.trans (hb14.mono HB13.out.size))
  have HP14 := Lib.hid (HP13.out.kept hb14)
  have HQ14 := Lib.hid hn14.own
  clear hb14 hn14 HM13 HB13 HP13 HT13
  go_wp2_with fail
  refine (eqIntS_same v14 v3 P _ HQ14.out HP14.out (by rw [HPL.out]; omega)).mono ?_
  rintro e w15 ⟨rfl, d15, hd15⟩
  have HM15 : Hid (Own w15 3 v6 (ints (marks 1 p))) := by rw [hd15]; exact HM14.out.drewN _
  have HB15 : Hid (Below W.heap.size W w15) := by rw [hd15]; exact below_drewN HB14.out _
  clear hd15 HM14 HB14 HP14 HQ14
  go_wp2_with fail
  refine (heldInts v6 p _ HM15.out (by omega)).mono ?_
  rintro e w16 ⟨rfl, hb16⟩
  go_wp2
  go_ret
  exact ⟨rfl, HB15.out.trans (hb16.mono HB15.out.size)⟩

end Go.Proofs.Ytfocnflnpabmkaa
