/- CoursePath in the program. -/
import Derived.Test.YtpfnamiacagocaaZ4
namespace Go.Proofs.Ytpfnamiacagocaa
open Go.RowKit
set_option linter.unusedSimpArgs false
set_option linter.unusedVariables false

theorem bellsF_mem {n : Nat} {h : Nat → Nat} (hh : IsRow n h) {b : Nat} (h1 : 1 ≤ b) (hb : b ≤ n) : ∀ x ∈ bellsF n h b, 1 ≤ x ∧ x ≤ n := by
  intro x hx
  unfold bellsF bellsK at hx
  simp only [List.mem_map] at hx
  obtain ⟨j, _, rfl⟩ := hx
  have := orb_lt (isRow_inv hh) (show b - 1 < n by omega) j
  omega
/-- the paths of the place bells one behind the other -/
noncomputable def courseP (n : Nat) (cs : List (Nat → Nat)) (b : Nat) : List Nat := (bellsF n (headF n cs) b).flatMap fun x => (pathF n cs (rdf n) x).dropLast
noncomputable def courseL (s : ByteArray) (n : Int) (L : List (List Nat)) (b : Int) : List Nat := if askB s n L b = true then courseP n.toNat (chR n L) b.toNat else []
theorem nums_app (xs ys : List Nat) : nums (xs ++ ys) = nums xs ++ nums ys := by simp [nums, ints]
theorem Own.cap_le {W : World} {e : TypeId} {a : Option Addr} {n cap : Nat} {xs : List Value} (h : Own W e (.slice a n cap) xs) : xs.length ≤ cap := by
  obtain ⟨-, h2⟩ := h
  rcases h2 with ⟨_, h0⟩ | ⟨g, cap', cur, hv, _, _, hle, _⟩
  · omega
  · injection hv with e1 e2 e3
    omega

set_option maxRecDepth 100000 in
set_option maxHeartbeats 1000000 in
theorem iCoursePath_any (s : ByteArray) (hs : s.size ≤ maxLen) (n : Int) (v : Value) (L : List (List Nat)) (b : Int) (w : World) (h : Txts w v L) (hl : L.length ≤ 2000000) :
    Calls Try.prog 34 #[.agg #[.string s, .int .i64 n, v], .int .i64 b] w (NumsAny (courseL s n L b) (askB s n L b) w) := by
  obtain ⟨a, cap, rfl, hcap, -⟩ := id h
  have HT := Lib.hid h
  have HR0 := Lib.hid (RowAt.new w 26 #[.string s, .int .i64 n, .slice a L.length cap])
  have HB0 := Lib.hid ((Below.refl _ w).alloc (Nat.le_refl _) (.cells #[.string s, .int .i64 n, .slice a L.length cap] 26))
  have HC := Lib.hid (fun w h => leadWith_any s hs n (.slice a L.length cap) L b w h hl)
  unfold WithAny at HC
  unfold courseL
  have hask := fun (h : askB s n L b = true) => askB_yes h
  generalize hab : askB s n L b = ab at *
  clear h hcap hl hs hab
  cases ab
  · clear hask
    rw [if_neg Bool.false_ne_true]
    generalize L.length = m at *
    generalize chR n L = cs at *
    go_enter Try.func34, Try.ntmps34
    go_wp2_with (first | (refine wpList_load_row rfl 26 _ rfl _ rfl 26 _ _ _ (HR0.out) Try.underlying26 rfl (by kernel_rfl) ?_) | fail)
    refine (HC.out _ (HT.out.kept HB0.out)).mono ?_
    rintro e w1 ⟨a1, m1, c1, f1, rfl, -, hb1⟩
    have HB1 := Lib.hid (HB0.out.trans (hb1.mono HB0.out.size))
    have HB2 := Lib.hid (HB1.out.alloc HB1.out.size (.cells (leadV (.slice a1 m1 c1) f1) 70))
    clear hb1 HC
    simp only [leadV] at HB2 ⊢
    go_wp2_with (first | (refine wpList_store_row rfl 70 _ _ rfl _ _ rfl rfl 70 _ (heap_at _ _ _ (by simp)) (by kernel_rfl) rfl (by kernel_rfl) ?_; rw [setRow_at _ _ _ _ _ (by simp)]) | fail)
    go_ret2
    exact ⟨_, rfl, New.nil _ _ _, HB2.out⟩
  · obtain ⟨hg, h1, h2⟩ := hask rfl
    have hr := goodAll_range (goodM_parts hg).1
    obtain ⟨n, rfl⟩ := Int.eq_ofNat_of_zero_le (show 0 ≤ n by omega)
    obtain ⟨b, rfl⟩ := Int.eq_ofNat_of_zero_le (show 0 ≤ b by omega)
    obtain ⟨h3, h8, hrows, h40, h41⟩ := goodM_nat hg
    have h1 : 1 ≤ b := by omega
    have h2 : b ≤ n := by omega
    have hrd := isRow_rdf h3 h8
    have hhd : IsRow n (headF n (chR n L)) := isRow_head h3 h8 hrows
    have hbin := bellsF_mem hhd h1 h2
    have hbl := bellsF_len hhd h1 h2
    have HPLN := Lib.hid (fun x => pathF_len n (chR n L) (rdf n) x)
    have HG : Hid (∀ u w, NewD 0 w u (chR n L) → Calls Try.prog 82 #[.agg (leadV u (rdf n)), .int .i64 b] w (NumsOut (bellsF n (headF n (chR n L)) b) w)) := Lib.hid (fun u w (h : NewD 0 w u (chR n L)) => placeBells_any n u (chR n L) (rdf n) hrd hrows h40 b h1 h2 w h)
    have HPA : Hid (∀ x ∈ bellsF n (headF n (chR n L)) b, ∀ u w, NewD 0 w u (chR n L) → Calls Try.prog 61 #[.agg (leadV u (rdf n)), .int .i64 x] w (NumsOut (pathF n (chR n L) (rdf n) x) w)) := Lib.hid (fun x hx u w h => path_any n u (chR n L) (rdf n) hrd hrows h40 x (hbin x hx).1 (hbin x hx).2 w h)
    unfold NumsOut at HG HPA
    rw [if_pos rfl]
    simp only [Int.toNat_natCast] at HC ⊢
    unfold courseP
    generalize bellsF n (headF n (chR n L)) b = bs at *
    generalize hpf : (fun x => pathF n (chR n L) (rdf n) x) = pf at *
    have hpf' : ∀ x, pathF n (chR n L) (rdf n) x = pf x := fun x => congrFun hpf x
    simp only [hpf'] at HPA HPLN ⊢
    generalize hcl : (chR n L).length = c at *
    generalize hres : (bs.flatMap fun x => (pf x).dropLast) = res
    have HRES := Lib.hid hres
    have HBS := Lib.hid (show bs.length ≤ 8 by omega)
    generalize chR n L = cs at *
    generalize rdf n = f0 at *
    generalize L.length = m at *
    obtain ⟨k, hk⟩ : ∃ k, bs.length = k := ⟨_, rfl⟩
    have HK := Lib.hid hk
    have hk8 : (k : Int) ≤ 8 := by have := HBS.out; omega
    obtain ⟨i0, hi0, hz0, hz1, hz2⟩ := info_parts infoInt
    have I0 := Lib.hid (⟨hi0, hz0, hz1, hz2⟩ : _ ∧ _ ∧ _ ∧ _)
    have hci : (c : Int) ≤ 40 := by omega
    clear hask hg hr h3 h8 hrows h1 h2 hrd hhd hbin hbl hpf hpf' hcl hres hk hi0 hz0 hz1 hz2
    go_enter Try.func34, Try.ntmps34
    go_wp2_with (first | (refine wpList_load_row rfl 26 _ rfl _ rfl 26 _ _ _ (HR0.out) Try.underlying26 rfl (by kernel_rfl) ?_) | fail)
    refine (HC.out _ (HT.out.kept HB0.out)).mono ?_
    rintro e w1 ⟨a1, m1, c1, f1, rfl, hn1, hb1⟩
    obtain ⟨rfl, hnn⟩ := hn1 trivial
    have HB1 := Lib.hid (HB0.out.trans (hb1.mono HB0.out.size))
    have HL2 := Lib.hid (RowAt.new w1 70 (leadV (.slice a1 m1 c1) f1))
    have HB2 := Lib.hid (HB1.out.alloc HB1.out.size (.cells (leadV (.slice a1 m1 c1) f1) 70))
    have HN2 := Lib.hid ((hnn.kept ((Below.refl _ _).alloc (Nat.le_refl _) (.cells (leadV (.slice a1 m1 c1) f1) 70))).lower (Nat.zero_le _))
    clear hn1 hnn hb1 HC HB0 HB1
    simp only [leadV] at HL2 HB2 HN2 HG HPA ⊢
    go_wp2_with (first | (refine wpList_store_row rfl 70 _ _ rfl _ _ rfl rfl 70 _ (heap_at _ _ _ (by simp)) (by kernel_rfl) rfl (by kernel_rfl) ?_; rw [setRow_at _ _ _ _ _ (by simp)]) | (refine wpList_load_row rfl 70 _ rfl _ rfl 70 _ _ _ (HL2.out) Try.underlying70 rfl (by kernel_rfl) ?_) | fail)
    refine (HG.out _ _ HN2.out).mono ?_
    rintro e w4 ⟨v4, rfl, hn4, hb4⟩
    have HB4 := Lib.hid (HB2.out.trans (hb4.mono HB2.out.size))
    have HL4 := Lib.hid (HL2.out.kept hb4)
    have HN4 := Lib.hid (HN2.out.kept hb4)
    have HV4 := Lib.hid hn4.own
    obtain ⟨a4, c4, hv4, ha4⟩ := hn4.own.view
    rw [nums_len, HK.out] at hv4 ha4
    subst hv4
    have HA4 := Lib.hid ha4
    clear hn4 hb4 ha4 HN2 HG
    go_wp2
    go_loopg [8, 24] k (fun q ov x wr => ∃ (j : Nat) (acc : List Nat), q + j = k ∧ x = .int .i64 j ∧ acc.length = j * c ∧ acc ++ ((bs.drop j).flatMap fun x => (pf x).dropLast) = res ∧ New w4.heap.size wr 3 ov (nums acc) ∧ Below w4.heap.size w4 wr)
    case atStart => exact ⟨0, [], by omega, rfl, by simp, by rw [List.drop_zero]; exact HRES.out, New.nil _ _ _, Below.refl _ _⟩
    case round =>
      clear HRES
      obtain ⟨j, acc, hq, rfl, hac, hall, hn, hbl⟩ := hrel
      have HALL := Lib.hid hall
      have HAC := Lib.hid hac
      have HN := Lib.hid hn
      have HB := Lib.hid hbl
      obtain ⟨a9, c9, hv9, -⟩ := hn.own.view
      subst hv9
      clear hn hbl hall hac
      by_cases hlt : j < k
      · obtain ⟨q', rfl⟩ : ∃ q', gk = q' + 1 := ⟨gk - 1, by omega⟩
        have hj : j < bs.length := by rw [HK.out]; exact hlt
        have hji : (j : Int) < k := by omega
        obtain ⟨g4, rfl⟩ := HA4.out (by omega)
        have c3 : wr.cell? ⟨g4, j, none⟩ = some (.int .i64 (bs[j] : Nat)) := (HV4.out.kept HB.out).cell j _ (by simp [nums, ints, hj])
        have HPX := Lib.hid (HPA.out bs[j] (List.getElem_mem hj))
        have hplx := HPLN.out bs[j]
        have hdl : (pf bs[j]).dropLast.length = c := by rw [List.length_dropLast, hplx]; omega
        have HALL2 : Hid ((acc ++ (pf bs[j]).dropLast) ++ ((bs.drop (j + 1)).flatMap fun x => (pf x).dropLast) = res) := Lib.hid (by
          have := HALL.out
          rw [List.drop_eq_getElem_cons hj, List.flatMap_cons] at this
          rw [List.append_assoc]
          exact this)
        have hpx : pf bs[j] = (pf bs[j]).dropLast ++ [(pf bs[j]).getLast (by intro e; rw [e] at hplx; simp at hplx)] := (List.dropLast_concat_getLast _).symm
        generalize (pf bs[j]).getLast _ = lst at *
        generalize (pf bs[j]).dropLast = dl at *
        rw [hpx] at HPX
        have HDL := Lib.hid hdl
        generalize bs[j] = x at *
        have HLR := Lib.hid (HL4.out.kept HB.out)
        clear hplx hdl hpx
        go_wp2_with (first | (refine wpList_load_row rfl 70 _ rfl _ rfl 70 _ _ _ (HLR.out) Try.underlying70 rfl (by kernel_rfl) ?_) | fail)
        refine (HPX.out _ _ (HN4.out.kept HB.out)).mono ?_
        rintro e w5 ⟨v5, rfl, hn5, hb5⟩
        have HB5 := Lib.hid (HB.out.trans (hb5.mono HB.out.size))
        have hs5 := HB5.out.size
        have HN5 := Lib.hid (HN.out.kept hb5)
        have HV5 := Lib.hid hn5.own
        obtain ⟨a5, c5, hv5, ha5⟩ := hn5.own.view
        rw [nums_len, List.length_append, List.length_singleton, HDL.out] at hv5 ha5
        obtain ⟨g5, rfl⟩ := ha5 (by omega)
        subst hv5
        have hc5 : (c : Int) + 1 ≤ c5 := by
          have := HV5.out.cap_le
          rw [nums_len, List.length_append, List.length_singleton, HDL.out] at this
          omega
        have hci0 : (0 : Int) ≤ c := by omega
        have hone : ∀ u ∈ nums dl, u.oneCell' = true := by
          intro u hu
          simp only [nums, ints, List.mem_map] at hu
          obtain ⟨x, _, rfl⟩ := hu
          rfl
        have HONE := Lib.hid hone
        have hcw : IntKind.i64.wrap ((c : Int) + 1 - 1) = (c : Int) := by rw [Int.add_sub_cancel]; exact Go.IntWalk.i64_in _ ⟨by omega, by omega⟩
        have hac2 : acc.length ≤ 320 := by
          rw [HAC.out]
          have h1 : j ≤ 8 := by have := HBS.out; omega
          have h2 : c ≤ 40 := by omega
          calc j * c ≤ 8 * 40 := Nat.mul_le_mul h1 h2
            _ = 320 := rfl
        have HAC2 : Hid (∀ lx : List Nat, lx.length = c → (acc ++ lx).length = (j + 1) * c) := Lib.hid (fun lx hx => by rw [List.length_append, HAC.out, hx, Nat.succ_mul])
        clear hn5 hb5 c3 hone ha5 HN HB
        go_wp2_with (first | (at_builtin; refine wpList_appN rfl (.tmp 31) (.tmp 36) 39 rfl 3 i0 (.int .i64 0) 8 Try.underlying39 I0.out.1 I0.out.2.1 I0.out.2.2.1 I0.out.2.2.2 rfl w4.heap.size w4 _ (nums acc) rfl HN5.out ⟨g5, 0, none⟩ c _ (nums dl) rfl (by rw [nums_len, HDL.out]) (fun j u hj => by rw [add_at, Nat.zero_add]; exact HV5.out.cell j u (by rw [nums_app]; rw [List.getElem?_append_left (List.getElem?_eq_some_iff.1 hj).1]; exact hj)) HONE.out hs5 HB5.out (by rw [nums_len]; omega) (by omega) ?_) | fail)
        intro v6 w6 hn6 hk6 hb6 _ _
        rw [← nums_app] at hn6
        have HN6 := Lib.hid hn6
        have HB6 := Lib.hid hb6
        clear hn6 hk6 hb6
        go_wp2
        go_roundg q'
        case measure => omega
        case rel => exact ⟨j + 1, acc ++ dl, by omega, by go_num, HAC2.out dl HDL.out, HALL2.out, HN6.out, HB6.out⟩
      · obtain rfl : gk = 0 := by omega
        obtain rfl : j = k := by omega
        have hall := HALL.out
        rw [List.drop_eq_nil_of_le (by rw [HK.out]; exact Nat.le_refl _), List.flatMap_nil, List.append_nil] at hall
        subst hall
        have hw4 := HB4.out.size
        go_wp2
        go_ret2
        exact ⟨_, rfl, HN.out.lower hw4, HB4.out.trans (HB.out.mono hw4)⟩
end Go.Proofs.Ytpfnamiacagocaa
