/- slices.DeleteFunc with the program's own closure. -/
import Derived.Test.YtfocnflnpabmkaaD9
import Derived.Lib.SliceRun
namespace Go.Proofs.Ytfocnflnpabmkaa
open Go.RowKit
set_option linter.unusedSimpArgs false
set_option linter.unusedVariables false

/-- place b holds its own bell -/
def keepP (f : Nat → Nat) (b : Nat) : Bool := f (b - 1) == 48 + b
set_option maxRecDepth 100000 in
set_option maxHeartbeats 1000000 in
theorem closure_any (n : Nat) (f : Nat → Nat) (hf : IsRow n f) (b x : Nat) (h1 : 1 ≤ x) (hn : x ≤ n) (W : World) (hr : RowAt W b 77 (dig8 f)) :
    Calls Try.prog 116 #[.int .i64 x, .pointer (some ⟨b, 0, none⟩)] W fun e w' => e = .returned (.bool (!keepP f x)) ∧ Below W.heap.size W w' := by
  obtain ⟨q, rfl⟩ : ∃ q, x = q + 1 := ⟨x - 1, by omega⟩
  have h8 := hf.eight
  have hk : keepP f (q + 1) = (f q == 49 + q) := by
    unfold keepP
    rw [Nat.add_sub_cancel, show 48 + (q + 1) = 49 + q by omega]
  rw [hk]
  have HH := Lib.hid (fun w => isHome_any f q (by omega) (by have := hf.lo q (by omega); omega) (by have := hf.hi q (by omega); omega) ((q + 1 : Nat) : Int) (by omega) w)
  generalize (f q == 49 + q) = res at *
  clear hk hf
  have HR := Lib.hid hr
  clear hr
  go_enter Try.func116, Try.ntmps116
  go_wp2_with (first | (refine wpList_load_row rfl 77 _ rfl _ rfl 77 _ _ _ (HR.out) Try.underlying77 rfl (by kernel_rfl) ?_) | fail)
  refine (HH.out _).mono ?_
  rintro e w1 ⟨rfl, hb1⟩
  go_wp2
  go_ret
  exact ⟨rfl, hb1⟩

set_option maxRecDepth 100000 in
set_option maxHeartbeats 1000000 in
theorem indexFunc_any (n : Nat) (f : Nat → Nat) (hf : IsRow n f) (b : Nat) (v : Value) (xs : List Nat) (hx : ∀ x ∈ xs, 1 ≤ x ∧ x ≤ n) (hl : xs.length ≤ 8) (W : World) (hr : RowAt W b 77 (dig8 f)) (hv : Own W 3 v (nums xs)) :
    Calls Try.prog 124 #[v, .func (.func 116) #[] #[.pointer (some ⟨b, 0, none⟩)]] W fun e w' => (∃ k : Nat, k ≤ xs.length ∧ (∀ t, t < k → keepP f (xs.getD t 0) = true) ∧ ((k = xs.length ∧ e = .returned (.int .i64 (-1))) ∨ (k < xs.length ∧ keepP f (xs.getD k 0) = false ∧ e = .returned (.int .i64 k)))) ∧ Below W.heap.size W w' := by
  obtain ⟨m, hm⟩ : ∃ m, xs.length = m := ⟨_, rfl⟩
  obtain ⟨a, cap, rfl, ha⟩ := hv.view
  rw [nums_len, hm] at hv ha ⊢
  rw [hm] at hl
  have HV := Lib.hid hv
  have HA := Lib.hid ha
  have HM := Lib.hid hm
  have HX := Lib.hid hx
  have HF := Lib.hid hf
  have HR := Lib.hid hr
  have hmi : (m : Int) ≤ 8 := by omega
  clear hv ha hm hx hf hr
  go_enter Try.func124, Try.ntmps124
  go_wp2
  go_loopg [5, 8] m (fun q _ ix wr => ∃ i : Nat, q + i = m ∧ ix = .int .i64 i ∧ (∀ t, t < i → keepP f (xs.getD t 0) = true) ∧ Below W.heap.size W wr)
  case atStart => exact ⟨0, by omega, rfl, fun t ht => by omega, Below.refl _ _⟩
  case round =>
    obtain ⟨i, hqi, rfl, hall, hb⟩ := hrel
    have HALL := Lib.hid hall
    have HB := Lib.hid hb
    clear hall hb
    by_cases hlt : i < m
    · obtain ⟨g, rfl⟩ := HA.out (by omega)
      have hix : i < xs.length := by rw [HM.out]; exact hlt
      have hgd : xs.getD i 0 = xs[i] := by simp [List.getD_eq_getElem?_getD, hix]
      have c1 := (HV.out.kept HB.out).cell i (.int .i64 (xs[i] : Nat)) (by simp [nums, ints, hix])
      have hxi := HX.out _ (List.getElem_mem hix)
      have HC := Lib.hid (closure_any n f HF.out b xs[i] hxi.1 hxi.2 _ (HR.out.kept HB.out))
      have hii : (i : Int) < m := by omega
      generalize xs[i] = x at *
      cases hk : keepP f x
      · rw [hk] at HC
        have HK : Hid (keepP f (xs.getD i 0) = false) := Lib.hid (by rw [hgd]; exact hk)
        clear hk hgd
        go_wp2_with (first | (go_at_call 116; refine HC.out.mono ?_; rintro e w1 ⟨rfl, hb1⟩) | fail)
        go_ret
        exact ⟨⟨i, by omega, HALL.out, .inr ⟨hlt, HK.out, rfl⟩⟩, HB.out.trans (hb1.mono HB.out.size)⟩
      · rw [hk] at HC
        have HK : Hid (keepP f (xs.getD i 0) = true) := Lib.hid (by rw [hgd]; exact hk)
        clear hk hgd
        go_wp2_with (first | (go_at_call 116; refine HC.out.mono ?_; rintro e w1 ⟨rfl, hb1⟩) | fail)
        go_roundg (m - (i + 1))
        case measure => omega
        case rel => exact ⟨i + 1, by omega, by go_num, fun t ht => by
          rcases Nat.lt_or_ge t i with h1 | h1
          · exact HALL.out t h1
          · obtain rfl : t = i := by omega
            exact HK.out, HB.out.trans (hb1.mono HB.out.size)⟩
    · obtain rfl : i = m := by omega
      have hii : ¬ (i : Int) < (i : Int) := by omega
      go_wp2
      go_ret
      exact ⟨⟨i, Nat.le_refl _, HALL.out, .inl ⟨rfl, rfl⟩⟩, HB.out⟩

theorem Own.setCells {e : TypeId} {g n cap i : Nat} : ∀ (vs : List Value) (o : Nat) (xs : List Value) (W : World), i ≤ o → Own W e (.slice (some ⟨g, 0, none⟩) n cap) xs → ∃ ys, Own (W.setCells g o vs) e (.slice (some ⟨g, 0, none⟩) n cap) ys ∧ ys.take i = xs.take i
  | [], o, xs, W, _, h => ⟨xs, h, rfl⟩
  | v :: vs, o, xs, W, ho, h => by
    obtain ⟨ys, h1, h2⟩ := Own.setCells (i := i) vs (o + 1) (xs.set o v) (W.setCell ⟨g, o, none⟩ v) (by omega) (h.set o v)
    refine ⟨ys, h1, ?_⟩
    rw [h2, List.take_set, List.set_eq_of_length_le (by simp; omega)]
theorem Below.setCells {B g : Nat} {w : World} (hg : B ≤ g) : ∀ (vs : List Value) (o : Nat) (W : World), Below B w W → Below B w (W.setCells g o vs)
  | [], _, _, h => h
  | v :: vs, o, W, h => Below.setCells hg vs (o + 1) _ (h.setCell (p := ⟨g, o, none⟩) hg v)
theorem Own.short {W : World} {e : TypeId} {g n cap : Nat} {xs : List Value} (h : Own W e (.slice (some ⟨g, 0, none⟩) n cap) xs) (i : Nat) (hi : i ≤ n) : Own W e (.slice (some ⟨g, 0, none⟩) i cap) (xs.take i) := by
  obtain ⟨h1, h2⟩ := h
  rcases h2 with ⟨h0, _⟩ | ⟨g', cap', cur, hv, hb, hg, hle, hm, hs, ht⟩
  · cases h0
  · injection hv with e1 e2 e3
    injection e1 with e1
    injection e1 with e1
    subst e1 e2 e3
    have hlen : (xs.take i).length = i := by simp; omega
    refine ⟨by simp, .inr ⟨g, cap, cur, by rw [hlen], hb, hg, by rw [hlen]; omega, hm, hs, ?_⟩⟩
    rw [hlen, Nat.mul_one]
    rw [Nat.mul_one] at ht
    rw [← ht, List.take_take, Nat.min_eq_left hi]

theorem filter_all {f : Nat → Nat} {xs : List Nat} (h : ∀ t, t < xs.length → keepP f (xs.getD t 0) = true) : xs.filter (keepP f) = xs := by
  rw [List.filter_eq_self]
  intro x hx
  obtain ⟨t, ht, rfl⟩ := List.getElem_of_mem hx
  have := h t ht
  simpa [List.getD_eq_getElem?_getD, ht] using this
theorem filter_step {f : Nat → Nat} {xs : List Nat} (j : Nat) (hj : j < xs.length) : (xs.take (j + 1)).filter (keepP f) = (xs.take j).filter (keepP f) ++ (if keepP f (xs.getD j 0) = true then [xs.getD j 0] else []) := by
  rw [List.take_succ_eq_append_getElem hj, List.filter_append]
  simp [List.getD_eq_getElem?_getD, hj, List.filter_cons]
theorem filter_start {f : Nat → Nat} {xs : List Nat} (k : Nat) (hk : k < xs.length) (h : ∀ t, t < k → keepP f (xs.getD t 0) = true) (hn : keepP f (xs.getD k 0) = false) : (xs.take (k + 1)).filter (keepP f) = xs.take k := by
  rw [filter_step k hk, hn]
  simp only [Bool.false_eq_true, if_false, List.append_nil]
  have hlk : (xs.take k).length = k := by simp; omega
  refine filter_all (fun t ht => ?_)
  rw [hlk] at ht
  have := h t ht
  simpa [List.getD_eq_getElem?_getD, ht] using this

theorem set_take {Y : List Nat} {x : Nat} (i : Nat) (hi : i < Y.length) : (Y.set i x).take (i + 1) = Y.take i ++ [x] := by
  rw [List.take_succ_eq_append_getElem (by simpa using hi), List.take_set, List.set_eq_of_length_le (by simp; exact Nat.min_le_left _ _), List.getElem_set_self]

set_option maxRecDepth 100000 in
set_option maxHeartbeats 1000000 in
theorem deleteFunc_any (n : Nat) (f : Nat → Nat) (hf : IsRow n f) (b B : Nat) (v : Value) (xs : List Nat) (hx : ∀ x ∈ xs, 1 ≤ x ∧ x ≤ n) (hl : xs.length ≤ 8) (W : World) (hB : B ≤ W.heap.size) (hr : RowAt W b 77 (dig8 f)) (hv : New B W 3 v (nums xs)) :
    Calls Try.prog 115 #[v, .func (.func 116) #[] #[.pointer (some ⟨b, 0, none⟩)]] W fun e w' => (∃ v', e = .returned v' ∧ New B w' 3 v' (nums (xs.filter (keepP f)))) ∧ Below B W w' := by
  obtain ⟨m, hm⟩ : ∃ m, xs.length = m := ⟨_, rfl⟩
  obtain ⟨a, cap, rfl, ha⟩ := hv.own.view
  have HI := Lib.hid (indexFunc_any n f hf b _ xs hx hl W hr hv.own)
  rw [nums_len, hm] at hv ha HI ⊢
  rw [hm] at hl
  have HV := Lib.hid hv
  have HA := Lib.hid ha
  have HM := Lib.hid hm
  have HX := Lib.hid hx
  have HF := Lib.hid hf
  have HR := Lib.hid hr
  have hmi : (m : Int) ≤ 8 := by omega
  obtain ⟨res, hres⟩ : ∃ res, xs.filter (keepP f) = res := ⟨_, rfl⟩
  have HRES := Lib.hid hres
  rw [hres]
  clear hv ha hm hx hf hr hres
  go_enter Try.func115, Try.ntmps115
  go_wp2_with fail
  refine HI.out.mono ?_
  rintro e w1 ⟨⟨k0, hk0, hall, hres⟩, hb1⟩
  have HR1 := Lib.hid (HR.out.kept hb1)
  have HV1 := Lib.hid (HV.out.kept hb1)
  have HB1 : Hid (Below B W w1) := Lib.hid (hb1.mono hB)
  have HZ1 := Lib.hid (Nat.le_trans hB hb1.size)
  clear HR HV hb1 HI
  rcases hres with ⟨rfl, rfl⟩ | ⟨hk1, hno, rfl⟩
  · have hfil := filter_all (f := f) (xs := xs) (fun t ht => hall t (by rw [HM.out] at ht; exact ht))
    have hr2 : xs = res := hfil.symm.trans HRES.out
    subst hr2
    clear hall hfil
    go_wp2
    go_ret
    exact ⟨⟨_, rfl, HV1.out⟩, HB1.out⟩
  · obtain ⟨g, rfl⟩ := HA.out (by omega)
    have HST := Lib.hid (filter_start (f := f) (xs := xs) k0 (by rw [HM.out]; exact hk1) hall hno)
    have hgB : B ≤ g := HV1.out.base g rfl
    have HCM : Hid (m ≤ cap) := Lib.hid (by
      obtain ⟨_, hs⟩ := HV1.out.own
      rcases hs with ⟨h0, _⟩ | ⟨g', cap', cur, hv, _, _, hle, _⟩
      · cases h0
      · injection hv with e1 e2 e3
        rw [nums_len, HM.out] at hle
        omega)
    have hk0m : ¬ ((k0 : Int) = -1) := by omega
    have hk8 : (k0 : Int) ≤ 8 := by omega
    clear hall hno HA
    go_wp2
    go_loopg [5, 6, 7] m (fun q si sj _ wr => ∃ (i j : Nat) (Y : List Nat), (m - j ≤ q ∧ j ≤ m) ∧ si = .int .i64 i ∧ sj = .int .i64 j ∧ i < j ∧ Y.length = m ∧ Y.take i = (xs.take j).filter (keepP f) ∧ (∀ t, j ≤ t → t < m → Y.getD t 0 = xs.getD t 0) ∧ New B wr 3 (.slice (some ⟨g, 0, none⟩) m cap) (nums Y) ∧ RowAt wr b 77 (dig8 f) ∧ Below B W wr ∧ B ≤ wr.heap.size)
    case atStart => exact ⟨k0, k0 + 1, xs, by omega, rfl, by go_num, by omega, HM.out, HST.out.symm, fun t _ _ => rfl, HV1.out, HR1.out, HB1.out, HZ1.out⟩
    case round =>
      clear HST HV1 HR1 HB1 HZ1
      obtain ⟨i, j, Y, hqj, rfl, rfl, hij, hY, htk, hdr, hn, hr, hb, hz⟩ := hrel
      have HY := Lib.hid hY
      have HTK := Lib.hid htk
      have HDR := Lib.hid hdr
      have HN := Lib.hid hn
      have HR := Lib.hid hr
      have HB := Lib.hid hb
      have HZ := Lib.hid hz
      clear hY htk hdr hn hr hb hz
      by_cases hlt : j < m
      · have hjx : j < xs.length := by rw [HM.out]; exact hlt
        have hjy : j < Y.length := by rw [HY.out]; exact hlt
        have hiy : i < Y.length := by omega
        have hgx : xs.getD j 0 = xs[j] := by simp [List.getD_eq_getElem?_getD, hjx]
        have hgy : Y.getD j 0 = Y[j] := by simp [List.getD_eq_getElem?_getD, hjy]
        have hyx : Y[j] = xs[j] := by rw [← hgx, ← hgy]; exact HDR.out j (Nat.le_refl _) hlt
        have c1 := HN.out.own.cell j (.int .i64 (xs[j] : Nat)) (by rw [← hyx]; simp [nums, ints, hjy])
        have hyi : (nums Y)[i]? = some (.int .i64 (Y[i] : Nat)) := by simp [nums, ints, hiy]
        have HYI := Lib.hid hyi
        have c2 := HN.out.own.cell i _ hyi
        clear hyi
        have f2 := HN.out.own.free i
        have hxj := HX.out _ (List.getElem_mem hjx)
        have HC := Lib.hid (fun W h => closure_any n f HF.out b xs[j] hxj.1 hxj.2 W h)
        have hstep := filter_step (f := f) (xs := xs) j hjx
        rw [hgx] at hstep
        have hji : (j : Int) < m := by omega
        have him : (i : Int) < m := by omega
        generalize xs[j] = x at *
        generalize Y[i] = y at *
        have HCR := Lib.hid (HC.out _ HR.out)
        cases hk : keepP f x
        · rw [hk] at HCR hstep
          have HSTEP : Hid (Y.take i = (xs.take (j + 1)).filter (keepP f)) := Lib.hid (by rw [hstep, HTK.out]; simp)
          clear hk hgx hgy hyx hstep c2 f2 HC
          go_wp2_with (first | (go_at_call 116; refine HCR.out.mono ?_; rintro e w2 ⟨rfl, hb2⟩) | fail)
          go_roundg (m - (j + 1))
          case measure => omega
          case rel => exact ⟨i, j + 1, Y, by omega, rfl, by go_num, by omega, HY.out, HSTEP.out, fun t h1 h2 => HDR.out t (by omega) h2, HN.out.kept hb2, HR.out.kept hb2, HB.out.trans (hb2.mono HZ.out), Nat.le_trans HZ.out hb2.size⟩
        · rw [hk] at HCR hstep
          have HSTEP : Hid ((Y.set i x).take (i + 1) = (xs.take (j + 1)).filter (keepP f)) := Lib.hid (by rw [hstep, set_take i hiy, HTK.out]; simp)
          have HNX := Lib.hid (HN.out.apartRow HR.out (by decide))
          clear hk hgx hgy hyx hstep HC c2 f2
          go_wp2_with (first | (go_at_call 116; refine HCR.out.mono ?_; rintro e w2 ⟨rfl, hb2⟩; have HN2 := Lib.hid (HN.out.kept hb2); have HR2 := Lib.hid (HR.out.kept hb2); have HB2 := Lib.hid (HB.out.trans (hb2.mono HZ.out)); have HZ2 := Lib.hid (Nat.le_trans HZ.out hb2.size); have c2 := HN2.out.own.cell i (.int .i64 (y : Nat)) HYI.out; have f2 := HN2.out.own.free i) | fail)
          go_roundg (m - (j + 1))
          case measure => omega
          case rel =>
            refine ⟨i + 1, j + 1, Y.set i x, by omega, by go_num, by go_num, by omega, by simpa using HY.out, HSTEP.out, fun t h1 h2 => ?_, ⟨?_, HN2.out.base⟩, HR2.out.other _ _ (by intro he; exact HNX.out (by simp [Value.ownBlock, he])), HB2.out.setCell hgB _, by simpa using HZ2.out⟩
            · rw [← HDR.out t (by omega) h2]
              simp only [List.getD_eq_getElem?_getD]
              rw [List.getElem?_set_ne (by omega)]
            · have := HN2.out.own.set i (.int .i64 (x : Nat))
              rwa [show (nums Y).set i (.int .i64 (x : Nat)) = nums (Y.set i x) from by simp [nums, ints, List.map_set]] at this
      · obtain rfl : j = m := by omega
        have hfin : Y.take i = res := by rw [HTK.out, List.take_of_length_le (by rw [HM.out]; exact Nat.le_refl _), HRES.out]
        have hjj : ¬ (j : Int) < (j : Int) := by omega
        have hii : (i : Int) < (j : Int) := by omega
        have hmc : j ≤ cap := HCM.out
        have hci : ¬ cap = i := by omega
        have hcl : ∀ ty, (Builtin.clear_ #[47] ty #[.slice (some ⟨g, i, none⟩) (j - i) (cap - i)]).run Try.prog wr = .ok (.tuple #[]) (wr.setCells g i (List.replicate (j - i) (.int .i64 0))) :=
          fun ty => Go.Lib.run_clear_slice wr _ _ ty _ Try.underlying47 (fun w => by kernel_rfl) rfl rfl g i _ _ (by omega) (fun t ht => by
            have : i + t < Y.length := by rw [HY.out]; omega
            rw [HN.out.own.cell (i + t) (.int .i64 (Y[i + t] : Nat)) (by simp [nums, ints, this])]; rfl) (fun t ht => HN.out.own.free (i + t))
        obtain ⟨ys, ho, hys⟩ := Own.setCells (i := i) (List.replicate (j - i) (.int .i64 0)) i (nums Y) wr (Nat.le_refl _) HN.out.own
        have ho2 := ho.short i (by omega)
        rw [hys, show (nums Y).take i = nums (Y.take i) by simp [nums, ints, List.map_take], hfin] at ho2
        have HO2 := Lib.hid ho2
        have HB2 := Lib.hid (Below.setCells hgB (List.replicate (j - i) (.int .i64 0)) i wr HB.out)
        clear ho ho2 hys hfin HTK HDR HRES HN HR HB HZ HX HF HY HM
        go_wp2
        go_ret
        exact ⟨⟨_, rfl, ⟨HO2.out, fun g' hg' => by simp [Value.ownBlock] at hg'; omega⟩⟩, HB2.out⟩
end Go.Proofs.Ytfocnflnpabmkaa
