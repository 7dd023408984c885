/- CoursePath in the model; its law. -/
import Derived.Test.YtpfnamiacagocaaE10
namespace Go.Proofs.Ytpfnamiacagocaa
open Go.RowKit
set_option linter.unusedSimpArgs false
set_option linter.unusedVariables false

set_option maxRecDepth 100000 in
set_option maxHeartbeats 1000000 in
theorem sCoursePath_any (s : ByteArray) (hs : s.size ≤ maxLen) (n : Int) (v : Value) (L : List (List Nat)) (b : Int) (w : World) (h : Txts w v L) (hl : L.length ≤ 2000000) (hsm : Small L) :
    Calls Try.prog 35 #[.agg #[.string s, .int .i64 n, v], .int .i64 b] w (NumsAny (courseL s n L b) (askB s n L b) w) := by
  obtain ⟨a, cap, rfl, hcap, -⟩ := id h
  have HT := Lib.hid h
  have HR0 := Lib.hid (RowAt.new w 26 #[.string s, .int .i64 n, .slice a L.length cap])
  have HB0 := Lib.hid ((Below.refl _ w).alloc (Nat.le_refl _) (.cells #[.string s, .int .i64 n, .slice a L.length cap] 26))
  have HC := Lib.hid (fun w h => l5Asked_any s hs n (.slice a L.length cap) L b w h hl hsm)
  unfold courseL
  have hask := fun (h : askB s n L b = true) => askB_yes h
  generalize hab : askB s n L b = ab at *
  clear h hcap hl hs hab hsm
  cases ab
  · clear hask
    rw [if_neg Bool.false_ne_true]
    generalize L.length = m at *
    generalize chR n L = cs at *
    go_enter Try.func35, Try.ntmps35
    go_wp2_with (first | (refine wpList_load_row rfl 26 _ rfl _ rfl 26 _ _ _ (HR0.out) Try.underlying26 rfl (by kernel_rfl) ?_) | fail)
    refine (HC.out _ (HT.out.kept HB0.out)).mono ?_
    rintro e w1 ⟨rfl, hb1⟩
    have HB1 := Lib.hid (HB0.out.trans (hb1.mono HB0.out.size))
    go_wp2
    go_ret2
    exact ⟨_, rfl, New.nil _ _ _, HB1.out⟩
  · obtain ⟨hg, h1, h2⟩ := hask rfl
    have hr := goodAll_range (goodM_parts hg).1
    obtain ⟨n, rfl⟩ := Int.eq_ofNat_of_zero_le (show 0 ≤ n by omega)
    obtain ⟨b, rfl⟩ := Int.eq_ofNat_of_zero_le (show 0 ≤ b by omega)
    obtain ⟨h3, h8, hrows, h40, h41⟩ := goodM_nat hg
    have h1 : 1 ≤ b := by omega
    have h2 : b ≤ n := by omega
    have hrd := isRow_rdf h3 h8
    have hhd : IsRow n (headF n (chR n L)) := isRow_head h3 h8 hrows
    have hbin := bellsF_mem hhd h1 h2
    have hbl := bellsF_len hhd h1 h2
    have HPLN := Lib.hid (fun x => pathF_len n (chR n L) (rdf n) x)
    have h40' := h40
    rw [chR_len] at h40'
    have HG := Lib.hid (fun w h => l5Bells_any s n (.slice a L.length cap) L (goodM_parts hg).1 b h1 h2 w h)
    have HPA : Hid (∀ x ∈ bellsF n (headF n (chR n L)) b, ∀ w, Txts w (.slice a L.length cap) L → Calls Try.prog 63 #[.agg #[.string s, .int .i64 n, .slice a L.length cap], .int .i64 x] w (NumsOut (pathF n (chR n L) (rdf n) x) w)) := Lib.hid (fun x hx w h => l5Path_any s n (.slice a L.length cap) L (goodM_parts hg).1 h40' x (hbin x hx).1 (hbin x hx).2 w h)
    clear h40'
    unfold NumsOut at HG HPA
    rw [if_pos rfl]
    simp only [Int.toNat_natCast]
    unfold courseP
    generalize bellsF n (headF n (chR n L)) b = bs at *
    generalize hpf : (fun x => pathF n (chR n L) (rdf n) x) = pf at *
    have hpf' : ∀ x, pathF n (chR n L) (rdf n) x = pf x := fun x => congrFun hpf x
    simp only [hpf'] at HPA HPLN ⊢
    generalize hcl : (chR n L).length = c at *
    generalize hres : (bs.flatMap fun x => (pf x).dropLast) = res
    have HRES := Lib.hid hres
    have HBS := Lib.hid (show bs.length ≤ 8 by omega)
    generalize L.length = m at *
    obtain ⟨k, hk⟩ : ∃ k, bs.length = k := ⟨_, rfl⟩
    have HK := Lib.hid hk
    have hk8 : (k : Int) ≤ 8 := by have := HBS.out; omega
    obtain ⟨i0, hi0, hz0, hz1, hz2⟩ := info_parts infoInt
    have I0 := Lib.hid (⟨hi0, hz0, hz1, hz2⟩ : _ ∧ _ ∧ _ ∧ _)
    have hci : (c : Int) ≤ 40 := by omega
    clear hask hg hr h3 h8 hrows h1 h2 hrd hhd hbin hbl hpf hpf' hcl hres hk hi0 hz0 hz1 hz2
    go_enter Try.func35, Try.ntmps35
    go_wp2_with (first | (refine wpList_load_row rfl 26 _ rfl _ rfl 26 _ _ _ (HR0.out) Try.underlying26 rfl (by kernel_rfl) ?_) | fail)
    refine (HC.out _ (HT.out.kept HB0.out)).mono ?_
    rintro e w1 ⟨rfl, hb1⟩
    have HB2 := Lib.hid (HB0.out.trans (hb1.mono HB0.out.size))
    have HL2 := Lib.hid (HR0.out.kept hb1)
    clear hb1 HC HB0 HR0
    go_wp2_with (first | (refine wpList_load_row rfl 26 _ rfl _ rfl 26 _ _ _ (HL2.out) Try.underlying26 rfl (by kernel_rfl) ?_) | fail)
    refine (HG.out _ (HT.out.kept HB2.out)).mono ?_
    rintro e w4 ⟨v4, rfl, hn4, hb4⟩
    have HB4 := Lib.hid (HB2.out.trans (hb4.mono HB2.out.size))
    have HL4 := Lib.hid (HL2.out.kept hb4)
    have HT4 := Lib.hid (HT.out.kept HB4.out)
    have HV4 := Lib.hid hn4.own
    obtain ⟨a4, c4, hv4, ha4⟩ := hn4.own.view
    rw [nums_len, HK.out] at hv4 ha4
    subst hv4
    have HA4 := Lib.hid ha4
    clear hn4 hb4 ha4 HG
    go_wp2
    go_loopg [6, 18] k (fun q ov x wr => ∃ (j : Nat) (acc : List Nat), q + j = k ∧ x = .int .i64 j ∧ acc.length = j * c ∧ acc ++ ((bs.drop j).flatMap fun x => (pf x).dropLast) = res ∧ New w4.heap.size wr 3 ov (nums acc) ∧ Below w4.heap.size w4 wr)
    case atStart => exact ⟨0, [], by omega, rfl, by simp, by rw [List.drop_zero]; exact HRES.out, New.nil _ _ _, Below.refl _ _⟩
    case round =>
      clear HRES
      obtain ⟨j, acc, hq, rfl, hac, hall, hn, hbl⟩ := hrel
      have HALL := Lib.hid hall
      have HAC := Lib.hid hac
      have HN := Lib.hid hn
      have HB := Lib.hid hbl
      obtain ⟨a9, c9, hv9, -⟩ := hn.own.view
      subst hv9
      clear hn hbl hall hac
      by_cases hlt : j < k
      · obtain ⟨q', rfl⟩ : ∃ q', gk = q' + 1 := ⟨gk - 1, by omega⟩
        have hj : j < bs.length := by rw [HK.out]; exact hlt
        have hji : (j : Int) < k := by omega
        obtain ⟨g4, rfl⟩ := HA4.out (by omega)
        have c3 : wr.cell? ⟨g4, j, none⟩ = some (.int .i64 (bs[j] : Nat)) := (HV4.out.kept HB.out).cell j _ (by simp [nums, ints, hj])
        have HPX := Lib.hid (HPA.out bs[j] (List.getElem_mem hj))
        have hplx := HPLN.out bs[j]
        have hdl : (pf bs[j]).dropLast.length = c := by rw [List.length_dropLast, hplx]; omega
        have HALL2 : Hid ((acc ++ (pf bs[j]).dropLast) ++ ((bs.drop (j + 1)).flatMap fun x => (pf x).dropLast) = res) := Lib.hid (by
          have := HALL.out
          rw [List.drop_eq_getElem_cons hj, List.flatMap_cons] at this
          rw [List.append_assoc]
          exact this)
        have hpx : pf bs[j] = (pf bs[j]).dropLast ++ [(pf bs[j]).getLast (by intro e; rw [e] at hplx; simp at hplx)] := (List.dropLast_concat_getLast _).symm
        generalize (pf bs[j]).getLast _ = lst at *
        generalize (pf bs[j]).dropLast = dl at *
        rw [hpx] at HPX
        have HDL := Lib.hid hdl
        generalize bs[j] = x at *
        have HLR := Lib.hid (HL4.out.kept HB.out)
        clear hplx hdl hpx
        go_wp2_with (first | (refine wpList_load_row rfl 26 _ rfl _ rfl 26 _ _ _ (HLR.out) Try.underlying26 rfl (by kernel_rfl) ?_) | fail)
        refine (HPX.out _ (HT4.out.kept HB.out)).mono ?_
        rintro e w5 ⟨v5, rfl, hn5, hb5⟩
        have HB5 := Lib.hid (HB.out.trans (hb5.mono HB.out.size))
        have hs5 := HB5.out.size
        have HN5 := Lib.hid (HN.out.kept hb5)
        have HV5 := Lib.hid hn5.own
        obtain ⟨a5, c5, hv5, ha5⟩ := hn5.own.view
        rw [nums_len, List.length_append, List.length_singleton, HDL.out] at hv5 ha5
        obtain ⟨g5, rfl⟩ := ha5 (by omega)
        subst hv5
        have hc5 : (c : Int) + 1 ≤ c5 := by
          have := HV5.out.cap_le
          rw [nums_len, List.length_append, List.length_singleton, HDL.out] at this
          omega
        have hci0 : (0 : Int) ≤ c := by omega
        have hone : ∀ u ∈ nums dl, u.oneCell' = true := by
          intro u hu
          simp only [nums, ints, List.mem_map] at hu
          obtain ⟨x, _, rfl⟩ := hu
          rfl
        have HONE := Lib.hid hone
        have hcw : IntKind.i64.wrap ((c : Int) + 1 - 1) = (c : Int) := by rw [Int.add_sub_cancel]; exact Go.IntWalk.i64_in _ ⟨by omega, by omega⟩
        have hac2 : acc.length ≤ 320 := by
          rw [HAC.out]
          have h1 : j ≤ 8 := by have := HBS.out; omega
          have h2 : c ≤ 40 := by omega
          calc j * c ≤ 8 * 40 := Nat.mul_le_mul h1 h2
            _ = 320 := rfl
        have HAC2 : Hid (∀ lx : List Nat, lx.length = c → (acc ++ lx).length = (j + 1) * c) := Lib.hid (fun lx hx => by rw [List.length_append, HAC.out, hx, Nat.succ_mul])
        clear hn5 hb5 c3 hone ha5 HN HB
        go_wp2_with (first | (at_builtin; refine wpList_appN rfl (.tmp 25) (.tmp 30) 39 rfl 3 i0 (.int .i64 0) 8 Try.underlying39 I0.out.1 I0.out.2.1 I0.out.2.2.1 I0.out.2.2.2 rfl w4.heap.size w4 _ (nums acc) rfl HN5.out ⟨g5, 0, none⟩ c _ (nums dl) rfl (by rw [nums_len, HDL.out]) (fun j u hj => by rw [add_at, Nat.zero_add]; exact HV5.out.cell j u (by rw [nums_app]; rw [List.getElem?_append_left (List.getElem?_eq_some_iff.1 hj).1]; exact hj)) HONE.out hs5 HB5.out (by rw [nums_len]; omega) (by omega) ?_) | fail)
        intro v6 w6 hn6 hk6 hb6 _ _
        rw [← nums_app] at hn6
        have HN6 := Lib.hid hn6
        have HB6 := Lib.hid hb6
        clear hn6 hk6 hb6
        go_wp2
        go_roundg q'
        case measure => omega
        case rel => exact ⟨j + 1, acc ++ dl, by omega, by go_num, HAC2.out dl HDL.out, HALL2.out, HN6.out, HB6.out⟩
      · obtain rfl : gk = 0 := by omega
        obtain rfl : j = k := by omega
        have hall := HALL.out
        rw [List.drop_eq_nil_of_le (by rw [HK.out]; exact Nat.le_refl _), List.flatMap_nil, List.append_nil] at hall
        subst hall
        have hw4 := HB4.out.size
        go_wp2
        go_ret2
        exact ⟨_, rfl, HN.out.lower hw4, HB4.out.trans (HB.out.mono hw4)⟩

theorem flatMap_len {c : Nat} (f : Nat → List Nat) (hf : ∀ x, (f x).length = c) : ∀ (bs : List Nat), (bs.flatMap f).length = bs.length * c
  | [] => by simp
  | b :: t => by rw [List.flatMap_cons, List.length_append, hf, flatMap_len f hf t, List.length_cons, Nat.succ_mul, Nat.add_comm]
theorem courseP_len (n : Nat) (cs : List (Nat → Nat)) (b : Nat) : (courseP n cs b).length = (bellsF n (headF n cs) b).length * cs.length :=
  flatMap_len _ (fun x => by rw [List.length_dropLast, pathF_len]; omega) _
theorem courseL_len (s : ByteArray) (n : Int) (L : List (List Nat)) (b : Int) : (courseL s n L b).length ≤ 1000 := by
  unfold courseL
  by_cases h : askB s n L b = true
  · obtain ⟨hg, h1, h2⟩ := askB_yes h
    obtain ⟨k, rfl⟩ := good_cast hg
    have h9 := goodM_nat hg
    rw [if_pos h, courseP_len]
    have hb := bellsF_len (isRow_head h9.1 h9.2.1 h9.2.2.1) (b := b.toNat) (by omega) (by omega)
    simp only [Int.toNat_natCast]
    have : (bellsF k (headF k (chR (k : Int) L)) b.toNat).length * (chR (k : Int) L).length ≤ 8 * 40 := Nat.mul_le_mul (by omega) h9.2.2.2.1
    omega
  · rw [if_neg h]; simp
theorem bothCoursePath (s : ByteArray) (hs : s.size ≤ maxLen) (n : Int) (L : List (List Nat)) (hl : L.length ≤ 2000000) (hsm : Small L) (r : Int) :
    ∃ (P : List Int) (flag : Bool), P.length ≤ 1000 ∧ (∀ u w, Txts w u L → Calls Try.prog 34 #[.agg #[.string s, .int .i64 n, u], .int .i64 r] w (IntsAny P flag w)) ∧ (∀ u w, Txts w u L → Calls Try.prog 35 #[.agg #[.string s, .int .i64 n, u], .int .i64 r] w (IntsAny P flag w)) := by
  refine ⟨(courseL s n L r).map fun (k : Nat) => (k : Int), askB s n L r, ?_, fun u w h => iCoursePath_any s hs n u L r w h hl, fun u w h => sCoursePath_any s hs n u L r w h hl hsm⟩
  rw [List.length_map]
  exact courseL_len s n L r

set_option maxRecDepth 100000 in
set_option maxHeartbeats 1000000 in
theorem lawCoursePath (s : ByteArray) (n : Int) (v : Value) (ss : List ByteArray) (r : Int) (W : World) (hsz : s.size ≤ maxLen) (hA : Arg W v ss) (hy : ss.length ≤ maxLen ∧ ∀ t ∈ ss, t.size ≤ maxLen) :
    Calls Try.prog 9 #[.agg #[.string s, .int .i64 n, v], .int .i64 r] W fun e w' => e = .returned (.bool true) ∧ Below W.heap.size W w' := by
  obtain ⟨a, cap, rfl, -⟩ := id hA
  have HB : Hid (s.size ≤ 1048576 → ss.length ≤ 1048576 → (∀ t ∈ ss, t.size ≤ 1048576) → _) := Lib.hid (fun h1 h2 h3 => bothCoursePath s (by simp only [maxLen]; omega) n (letss ss) (by rw [letss_len]; omega) (small_letss hy.2) r)
  have HSZ : Hid (∀ w, Arg w (.slice a ss.length cap) ss → Calls Try.prog 43 #[.agg #[.string s, .int .i64 n, .slice a ss.length cap], .int .i64 1048576] w _) := Lib.hid (fun w h => szMethod_any s hsz n (.slice a ss.length cap) ss w h hy.1 hy.2 1048576 (by omega) (by omega))
  have HTO : Hid (ss.length ≤ 1048576 → ∀ w, Arg w (.slice a ss.length cap) ss → Calls Try.prog 44 #[.agg #[.string s, .int .i64 n, .slice a ss.length cap]] w (MethOut s n (letss ss) w)) := Lib.hid (fun h2 w h => toMethod_any s n (.slice a ss.length cap) ss w h (by omega))
  have HLL := Lib.hid (letss_len ss)
  have HA := Lib.hid hA
  have HSS : Hid (ss.length = ss.length) := Lib.hid rfl
  have HR0 := Lib.hid (RowAt.new W 51 #[.string s, .int .i64 n, .slice a ss.length cap])
  have HB0 := Lib.hid ((Below.refl _ W).alloc (Nat.le_refl _) (.cells #[.string s, .int .i64 n, .slice a ss.length cap] 51))
  unfold MethOut at HTO
  generalize letss ss = L at *
  generalize hm : ss.length = m at *
  have HMM := Lib.hid hm
  clear hA hy hsz hm
  go_enter Try.func9, Try.ntmps9
  go_wp2_with (first | (refine wpList_load_row rfl 51 _ rfl _ rfl 51 _ _ _ (HR0.out) Try.underlying51 rfl (by kernel_rfl) ?_) | fail)
  refine (HSZ.out _ (HA.out.kept HB0.out)).mono ?_
  rintro e w1 ⟨z, rfl, hz0, hz1, hz2, hb1⟩
  have HR1 := Lib.hid (HR0.out.kept hb1)
  have HB1 := Lib.hid (HB0.out.trans (hb1.mono HB0.out.size))
  clear HR0 HB0 hb1 HSZ
  by_cases hneg : z < 0
  · clear hz2
    go_wp2
    go_ret
    exact ⟨rfl, HB1.out⟩
  have hz3 := hz2 (by omega)
  obtain ⟨hs1, hs2, hs3⟩ := hz3
  have hm2 : m ≤ 1048576 := by omega
  have HTO2 := Lib.hid (HTO.out hm2)
  have hboth := HB.out (by omega) (by omega) (fun t ht => by have := hs3 t ht; omega)
  clear HB HTO hz2 hs1 hs2 hs3
  obtain ⟨P, flag, hpl, hI, hS⟩ := hboth
  have HI := Lib.hid hI
  have HS := Lib.hid hS
  clear hI hS
  obtain ⟨p, hp⟩ : ∃ p, P.length = p := ⟨_, rfl⟩
  rw [hp] at hpl
  have HPL := Lib.hid hp
  clear hp
  unfold IntsAny at HI HS
  go_wp2_with (first | (refine wpList_load_row rfl 51 _ rfl _ rfl 51 _ _ _ (HR1.out) Try.underlying51 rfl (by kernel_rfl) ?_) | fail)
  refine (HTO2.out _ (HA.out.kept HB1.out)).mono ?_
  rintro e w2 ⟨v2, rfl, hn2, hb2⟩
  have HR2 := Lib.hid (HR1.out.kept hb2)
  have HB2 := Lib.hid (HB1.out.trans (hb2.mono HB1.out.size))
  have HT2 := Lib.hid hn2.own.txts
  clear HR1 HB1 hn2 hb2
  go_wp2_with fail
  refine (HS.out _ _ HT2.out).mono ?_
  rintro e w3 ⟨v3, rfl, hn3, hb3⟩
  have HP3 := Lib.hid hn3.own
  have HLT3 := Lib.hid hn3.own.lt
  have HW3 := Lib.hid (Nat.le_refl w3.heap.size)
  clear hn3
  have HR3 := Lib.hid (HR2.out.kept hb3)
  have HB3 := Lib.hid (HB2.out.trans (hb3.mono HB2.out.size))
  clear HR2 HB2 hb3 HT2
  go_wp2_with (first | (refine wpList_load_row rfl 51 _ rfl _ rfl 51 _ _ _ (HR3.out) Try.underlying51 rfl (by kernel_rfl) ?_) | fail)
  refine (HTO2.out _ (HA.out.kept HB3.out)).mono ?_
  rintro e w4 ⟨v4, rfl, hn4, hb4⟩
  have HP4 := Lib.hid (HP3.out.kept hb4)
  have HW4 := Lib.hid hb4.size
  have HR4 := Lib.hid (HR3.out.kept hb4)
  have HB4 := Lib.hid (HB3.out.trans (hb4.mono HB3.out.size))
  have HN4 := Lib.hid hn4
  have HLT4 := Lib.hid hn4.own.lt
  obtain ⟨a4, k4, rfl, -⟩ := hn4.own.view
  rw [strs_len, HLL.out] at HN4 ⊢
  have HB3s := Lib.hid HB3.out.size
  have HR3lt := Lib.hid HR3.out.lt
  clear HR3 HB3 hn4 hb4 HP3 HW3
  go_wp2_with (first | (refine wpList_store_row rfl 26 _ _ rfl _ _ rfl rfl 26 _ (heap_alloc_new _ _) (by kernel_rfl) rfl (by kernel_rfl) ?_; rw [World.setRow_alloc_new]) | fail)
  have HX5 := Lib.hid (RowAt.new w4 26 #[.string s, .int .i64 n, .slice a4 m k4])
  have HR5 := Lib.hid (HR4.out.push (.cells #[.string s, .int .i64 n, .slice a4 m k4] 26))
  have HB5 := Lib.hid (HB4.out.alloc HB4.out.size (.cells #[.string s, .int .i64 n, .slice a4 m k4] 26))
  have HN5 := Lib.hid (HN4.out.kept ((Below.refl _ _).alloc (Nat.le_refl _) (.cells #[.string s, .int .i64 n, .slice a4 m k4] 26)))
  have HP5 := Lib.hid (HP4.out.kept ((Below.refl _ _).alloc (Nat.le_refl _) (.cells #[.string s, .int .i64 n, .slice a4 m k4] 26)))
  have HW5 := Lib.hid (Nat.le_trans HW4.out ((Below.refl w4.heap.size _).alloc (Nat.le_refl _) (.cells #[.string s, .int .i64 n, .slice a4 m k4] 26)).size)
  have HW35 := Lib.hid HW5.out
  have HLT5 : Hid (∀ g, (Value.slice a4 m k4).ownBlock = some g → g < (w4.alloc (.cells #[.string s, .int .i64 n, .slice a4 m k4] 26)).heap.size) := Lib.hid (fun g hg => HN5.out.own.lt g hg)
  clear HR4 HB4 HN4 HP4 HW4
  generalize w4.alloc (.cells #[.string s, .int .i64 n, .slice a4 m k4] 26) = w5 at *
  refine (HI.out _ _ HN5.out.own.txts).mono ?_
  rintro e w5b ⟨v6, rfl, hn6, hb6⟩
  have HX5b := Lib.hid (HX5.out.kept hb6)
  have HR5b := Lib.hid (HR5.out.kept hb6)
  have HB5b := Lib.hid (HB5.out.trans (hb6.mono HB5.out.size))
  have HN5b := Lib.hid (HN5.out.kept hb6)
  have HP5b := Lib.hid (HP5.out.kept hb6)
  have HW5b := Lib.hid (Nat.le_trans HW5.out hb6.size)
  have HV5b := Lib.hid hb6.size
  have HQ5b := Lib.hid hn6
  clear HX5 HR5 HB5 HN5 hb6 HP5 HW5 hn6
  go_wp2_with fail
  refine (eqIntS_same v6 v3 P _ HQ5b.out.own HP5b.out (by rw [HPL.out]; omega)).mono ?_
  rintro e w6 ⟨rfl, d6, hd6⟩
  have HX6 : Hid (RowAt w6 w4.heap.size 26 #[.string s, .int .i64 n, .slice a4 m k4]) := by rw [hd6]; exact HX5b.out.drewN d6
  have HR6 : Hid (RowAt w6 W.heap.size 51 #[.string s, .int .i64 n, .slice a m cap]) := by rw [hd6]; exact HR5b.out.drewN d6
  have HB6 : Hid (Below W.heap.size W w6) := by rw [hd6]; exact below_drewN HB5b.out _
  have HN6 : Hid (New w3.heap.size w6 9 (.slice a4 m k4) (strs L)) := by rw [hd6]; exact HN5b.out.drewN _
  have HP6 : Hid (Own w6 3 v3 (ints P)) := by rw [hd6]; exact HP5b.out.drewN _
  have HQ6 : Hid (New w5.heap.size w6 3 v6 (ints P)) := by rw [hd6]; exact HQ5b.out.drewN _
  have HW6 : Hid (w3.heap.size ≤ w6.heap.size) := by rw [hd6]; exact HW5b
  have HV6 : Hid (w5.heap.size ≤ w6.heap.size) := by rw [hd6]; exact HV5b
  clear hd6 HX5b HR5b HB5b HN5b HP5b HQ5b HW5b HV5b
  go_wp2
  have hltx := HX6.out.lt
  have hltr := HR6.out.lt
  have HX6A : Hid (∀ W', Below w6.heap.size w6 W' → (W'.cell? ⟨w4.heap.size, 0, none⟩ = some (.string s) ∧ W'.cell? ⟨w4.heap.size, 1, none⟩ = some (.int .i64 n) ∧ W'.cell? ⟨w4.heap.size, 2, none⟩ = some (.slice a4 m k4) ∧ W'.cell? ⟨W.heap.size, 0, none⟩ = some (.string s) ∧ W'.cell? ⟨W.heap.size, 1, none⟩ = some (.int .i64 n) ∧ W'.cell? ⟨W.heap.size, 2, none⟩ = some (.slice a m cap) ∧ Below w6.heap.size w6 W')) := Lib.hid (fun W' h => by
    have hx := HX6.out.keep h hltx
    have hr := HR6.out.keep h hltr
    exact ⟨hx.cell 0 rfl, hx.cell 1 rfl, hx.cell 2 rfl, hr.cell 0 rfl, hr.cell 1 rfl, hr.cell 2 rfl, h⟩)
  have HTO7 : Hid (∀ W', Below w6.heap.size w6 W' → Calls Try.prog 44 #[.agg #[.string s, .int .i64 n, .slice a m cap]] W' fun e w' => (∃ a7 k7, e = .returned (.agg #[.string s, .int .i64 n, .slice a7 m k7]) ∧ Own w' 9 (.slice a7 m k7) (strs L)) ∧ Below w6.heap.size w6 w') := Lib.hid (fun W' h => (HTO2.out W' (HA.out.kept (HB6.out.trans (h.mono HB6.out.size)))).mono fun e w' hw => by
    obtain ⟨v7, rfl, hn7, hb7⟩ := hw
    obtain ⟨a7, k7, rfl, -⟩ := hn7.own.view
    have ho := hn7.own
    rw [strs_len, HLL.out] at ho ⊢
    exact ⟨⟨a7, k7, rfl, ho⟩, h.trans (hb7.mono h.size)⟩)
  have HEQ7 : Hid (∀ W' a7 k7, Below w6.heap.size w6 W' → Own W' 9 (.slice a7 m k7) (strs L) → Calls Try.prog 46 #[.agg #[.string s, .int .i64 n, .slice a4 m k4], .agg #[.string s, .int .i64 n, .slice a7 m k7]] W' fun e w' => e = .returned (.bool true) ∧ Below w6.heap.size w6 w') := Lib.hid (fun W' a7 k7 h ho => (eqMethod_same s n _ _ L W' (HN6.out.kept h).own ho (by rw [HLL.out]; omega)).mono fun e w' hw => ⟨hw.1, h.trans (hw.2.mono h.size)⟩)
  clear hltx hltr
  go_region_held3 (fun w' => w'.cell? ⟨w4.heap.size, 0, none⟩ = some (.string s) ∧ w'.cell? ⟨w4.heap.size, 1, none⟩ = some (.int .i64 n) ∧ w'.cell? ⟨w4.heap.size, 2, none⟩ = some (.slice a4 m k4) ∧ w'.cell? ⟨W.heap.size, 0, none⟩ = some (.string s) ∧ w'.cell? ⟨W.heap.size, 1, none⟩ = some (.int .i64 n) ∧ w'.cell? ⟨W.heap.size, 2, none⟩ = some (.slice a m cap) ∧ Below w6.heap.size w6 w') (first | assumption | exact HX6A.out _ (Below.refl _ _).drew) (first | (go_at_call 44; refine (HTO7.out _ (by first | exact (Below.refl _ _).drew | exact Below.refl _ _)).mono ?_; rintro e7 w7 ⟨⟨a7, k7, rfl, ho7⟩, hb7⟩; have hS7 := HX6A.out _ hb7) | (go_at_call 46; refine (HEQ7.out _ _ _ hb7 ho7).mono ?_; rintro e8 w8 ⟨rfl, hb8⟩; have hS8 := HX6A.out _ hb8) | fail)
  have HX8 := Lib.hid (HX6.out.kept hb8)
  have HR8 := Lib.hid (HR6.out.kept hb8)
  have HB8 := Lib.hid (HB6.out.trans (hb8.mono HB6.out.size))
  have HN8 := Lib.hid (HN6.out.kept hb8)
  have HP8 := Lib.hid (HP6.out.kept hb8)
  have HQ8 := Lib.hid (HQ6.out.kept hb8)
  have HW8 := Lib.hid (Nat.le_trans HW6.out hb8.size)
  have HV8 := Lib.hid (Nat.le_trans HV6.out hb8.size)
  clear HX6 HR6 HB6 HN6 HP6 HQ6 HW6 HV6 hS8 hS7 hb8 hb7 ho7 HX6A HTO7 HEQ7
  go_wp2_with (first | (refine wpList_load_row rfl 26 _ rfl _ rfl 26 _ _ _ (HX8.out) Try.underlying26 rfl (by kernel_rfl) ?_) | fail)
  refine (markMethod_any s n w3.heap.size (.slice a4 m k4) L _ HN8.out HW8.out (by rw [HLL.out]; omega)).mono ?_
  rintro e w9 ⟨rfl, -, hb9, hk9⟩
  rw [HLL.out]
  have HR9 := Lib.hid (HR8.out.keep hb9 HR3lt.out)
  have HB9 := Lib.hid (HB8.out.trans (hb9.mono HB3s.out))
  have HP9 := Lib.hid (HP8.out.under HLT3.out hb9)
  have HQ9 : Hid (New w5.heap.size w9 3 v6 (ints P)) := Lib.hid ⟨HQ8.out.own.besides hk9 (fun g hg h4 => by
    have := HQ8.out.base g hg
    have := HLT5.out g h4
    omega), HQ8.out.base⟩
  have HW9 := Lib.hid (Nat.le_trans HW8.out hb9.size)
  have HV9 := Lib.hid (Nat.le_trans HV8.out hb9.size)
  have hmm : ¬ ((1 : Int) + (m : Nat) < 0) := by omega
  clear HX8 HR8 HB8 HN8 HP8 HQ8 HW8 HV8 hb9 hk9
  go_wp2_with fail
  refine (eqIntS_same v6 v3 P _ HQ9.out.own HP9.out (by rw [HPL.out]; omega)).mono ?_
  rintro e w10 ⟨rfl, d10, hd10⟩
  have HR10 : Hid (RowAt w10 W.heap.size 51 #[.string s, .int .i64 n, .slice a m cap]) := by rw [hd10]; exact HR9.out.drewN d10
  have HB10 : Hid (Below W.heap.size W w10) := by rw [hd10]; exact below_drewN HB9.out _
  have HP10 : Hid (Own w10 3 v3 (ints P)) := by rw [hd10]; exact HP9.out.drewN _
  have HQ10 : Hid (New w5.heap.size w10 3 v6 (ints P)) := by rw [hd10]; exact HQ9.out.drewN _
  have HW10 : Hid (w3.heap.size ≤ w10.heap.size) := by rw [hd10]; exact HW9
  have HV10 : Hid (w5.heap.size ≤ w10.heap.size) := by rw [hd10]; exact HV9
  clear hd10 HR9 HB9 HP9 HQ9 HW9 HV9
  go_wp2_with fail
  refine (markInts w5.heap.size v6 P _ HQ10.out HV10.out (by rw [HPL.out]; omega)).mono ?_
  rintro e w11 ⟨rfl, ho11, hb11⟩
  rw [HPL.out] at ho11 ⊢
  have HM11 := Lib.hid ho11
  have HR11 := Lib.hid (HR10.out.keep hb11 (Nat.lt_of_lt_of_le HR3lt.out HW35.out))
  have HB11 := Lib.hid (HB10.out.trans (hb11.mono (Nat.le_trans HB3s.out HW35.out)))
  have HP11 := Lib.hid (HP10.out.under (fun g hg => Nat.lt_of_lt_of_le (HLT3.out g hg) HW35.out) hb11)
  have hpp : ¬ ((1 : Int) + (p : Nat) < 0) := by omega
  clear ho11 hb11 HR10 HB10 HP10 HQ10 HW10 HV10
  go_wp2_with fail
  refine (heldInts v6 p _ HM11.out (by omega)).mono ?_
  rintro e w12 ⟨rfl, hb12⟩
  have HM12 := Lib.hid (HM11.out.kept hb12)
  have HR12 := Lib.hid (HR11.out.kept hb12)
  have HB12 := Lib.hid (HB11.out.trans (hb12.mono HB11.out.size))
  have HP12 := Lib.hid (HP11.out.kept hb12)
  clear hb12 HM11 HR11 HB11 HP11
  go_wp2_with (first | (refine wpList_load_row rfl 51 _ rfl _ rfl 51 _ _ _ (HR12.out) Try.underlying51 rfl (by kernel_rfl) ?_) | fail)
  refine (HTO2.out _ (HA.out.kept HB12.out)).mono ?_
  rintro e w13 ⟨v13, rfl, hn13, hb13⟩
  have HM13 := Lib.hid (HM12.out.kept hb13)
  have HB13 := Lib.hid (HB12.out.trans (hb13.mono HB12.out.size))
  have HP13 := Lib.hid (HP12.out.kept hb13)
  have HT13 := Lib.hid hn13.own.txts
  clear hb13 hn13 HM12 HR12 HB12 HP12
  go_wp2_with fail
  refine (HI.out _ _ HT13.out).mono ?_
  rintro e w14 ⟨v14, rfl, hn14, hb14⟩
  have HM14 := Lib.hid (HM13.out.kept hb14)
  have HB14 := Lib.hid (HB13.out.trans (hb14.mono HB13.out.size))
  have HP14 := Lib.hid (HP13.out.kept hb14)
  have HQ14 := Lib.hid hn14.own
  clear hb14 hn14 HM13 HB13 HP13 HT13
  go_wp2_with fail
  refine (eqIntS_same v14 v3 P _ HQ14.out HP14.out (by rw [HPL.out]; omega)).mono ?_
  rintro e w15 ⟨rfl, d15, hd15⟩
  have HM15 : Hid (Own w15 3 v6 (ints (marks 1 p))) := by rw [hd15]; exact HM14.out.drewN _
  have HB15 : Hid (Below W.heap.size W w15) := by rw [hd15]; exact below_drewN HB14.out _
  clear hd15 HM14 HB14 HP14 HQ14
  go_wp2_with fail
  refine (heldInts v6 p _ HM15.out (by omega)).mono ?_
  rintro e w16 ⟨rfl, hb16⟩
  go_wp2
  go_ret
  exact ⟨rfl, HB15.out.trans (hb16.mono HB15.out.size)⟩

end Go.Proofs.Ytpfnamiacagocaa
