/- CyclesOf in the program. -/
import Derived.Test.YtnildepdpkbekaaA29
namespace Go.Proofs.Ytnildepdpkbekaa
open Go.RowKit
set_option linter.unusedSimpArgs false

/-- nine marks as cells -/
def bool9 (f : Nat → Bool) : Array Value := #[.bool (f 0), .bool (f 1), .bool (f 2), .bool (f 3), .bool (f 4), .bool (f 5), .bool (f 6), .bool (f 7), .bool (f 8)]
theorem bool9_get (f : Nat → Bool) : ∀ i, i < 9 → (bool9 f)[i]? = some (.bool (f i)) := by
  intro i h
  have : i = 0 ∨ i = 1 ∨ i = 2 ∨ i = 3 ∨ i = 4 ∨ i = 5 ∨ i = 6 ∨ i = 7 ∨ i = 8 := by omega
  rcases this with rfl | rfl | rfl | rfl | rfl | rfl | rfl | rfl | rfl <;> rfl
theorem bool9_set (f : Nat → Bool) : ∀ b, b < 9 → (bool9 f).setIfInBounds b (.bool true) = bool9 (markAt f b) := by
  intro i h
  have : i = 0 ∨ i = 1 ∨ i = 2 ∨ i = 3 ∨ i = 4 ∨ i = 5 ∨ i = 6 ∨ i = 7 ∨ i = 8 := by omega
  rcases this with rfl | rfl | rfl | rfl | rfl | rfl | rfl | rfl | rfl <;> rfl
def snAdd (sn : Nat → Bool) (xs : List Int) (b : Nat) : Bool := sn b || decide ((b : Int) ∈ xs)
theorem snAdd_nil (sn : Nat → Bool) : snAdd sn [] = sn := by funext b; simp [snAdd]
theorem snAdd_mark (sn : Nat → Bool) (xs : List Int) (x : Nat) : markAt (snAdd sn xs) x = snAdd sn (xs ++ [(x : Int)]) := by
  funext b
  unfold markAt snAdd
  by_cases e : b = x
  · subst e; simp
  · have : ¬ ((b : Int) = (x : Int)) := by omega
    simp [e, this]
theorem grownBy_set (W : World) (b o : Nat) (v : Value) : W.grownBy (W.setCell ⟨b, o, none⟩ v) (some b) :=
  ⟨rfl, rfl, rfl, by simp, fun k _ hne => Below.heap_setCell W _ v k (fun e => hne (by simp [e]))⟩

/-- what the program's loop knows behind i bells: the digits lie in block b, the marks in the next, all else from B on -/
structure ImplAt (n : Nat) (f : Nat → Nat) (i : Nat) (w wr : World) (b : Nat) (v : Value) (vs : List Value) (sn : Nat → Bool) : Prop where
  lists : Lists (b + 1 + 1) wr v vs (cycs n f i).length (at' (cycs n f i))
  drow : RowAt wr b 56 (dig8 f)
  srow : RowAt wr (b + 1) 63 (bool9 sn)
  marks : ∀ x, 1 ≤ x → x ≤ n → (sn x = true ↔ ((x : Int) ∈ (cycs n f i).flatten ∨ ∃ j, j < i ∧ x = j + 1 ∧ f j = 49 + j))
  below : Below w.heap.size w wr
  base : w.heap.size ≤ b

set_option maxRecDepth 100000 in
set_option maxHeartbeats 1000000 in
theorem iCyclesOf_yes (n : Nat) (f : Nat → Nat) (hf : IsRow n f) (w : World) :
    Calls Try.prog 14 #[.string (strOf n f)] w (CycRes n f w) := by
  have h8 := hf.eight
  have hss := strOf_size n f
  obtain ⟨i1, hi1, hy0, hy1, hy2⟩ := info_parts infoInts
  have I1 := Lib.hid (⟨hi1, hy0, hy1, hy2⟩ : _ ∧ _ ∧ _ ∧ _)
  have HF := Lib.hid hf
  clear hf hi1 hy0 hy1 hy2
  go_enter Try.func14, Try.ntmps14
  go_wp2_with fail
  refine (digitsOf_row n f HF.out _).mono ?_
  rintro e w1 ⟨rfl, hb1⟩
  have hst0 : ImplAt n f 0 w ((w1.alloc (.cells (dig8 f) 56)).alloc (.cells (bool9 fun _ => false) 63)) w1.heap.size (.slice none 0 0) [] (fun _ => false) := by
    refine ⟨Lists.nil _ _ _, (RowAt.new w1 _ (dig8 f)).push _, heap_at _ _ _ (by simp), fun x h1 h2 => by simp [cycs], (hb1.alloc hb1.size _).alloc (by have := hb1.size; simp; omega) _, hb1.size⟩
  have HST0 := Lib.hid hst0
  clear hst0 hb1
  go_wp2_with (refine wpList_store_row rfl 56 _ _ rfl _ _ rfl rfl 56 _ (heap_at _ _ _ (by simp)) (by kernel_rfl) rfl (by kernel_rfl) ?_; rw [setRow_at _ _ _ _ _ (by simp)])
  go_loopg [7, 8, 9, 11, 31, 32, 33] n (fun q v x _ _ _ _ _ wr => ∃ (i : Nat) (vs : List Value) (sn : Nat → Bool), i ≤ n ∧ q + i = n ∧ x = .int .i64 ((i : Int) + 1) ∧ ImplAt n f i w wr w1.heap.size v vs sn)
  case atStart => exact ⟨0, [], _, Nat.zero_le _, rfl, rfl, HST0.out⟩
  case round =>
    clear HST0
    obtain ⟨i, vs, sn, hi, hq, rfl, hst⟩ := hrel
    have HQ := Lib.hid hq
    have HST := Lib.hid hst
    clear hq hst
    by_cases hlt : i < n
    · have hki : (i : Int) + 1 ≤ n := by omega
      have hi9 : i + 1 < 9 := by omega
      have c1 := HST.out.srow.cell (i + 1) (bool9_get sn (i + 1) hi9)
      by_cases hseen : sn (i + 1) = true
      · have hmem : ((i : Int) + 1) ∈ (cycs n f i).flatten := by
          rcases (HST.out.marks (i + 1) (by omega) (by omega)).1 hseen with h | ⟨j, h1, h2, _⟩
          · simpa using h
          · omega
        have HSK := Lib.hid (cycs_skip (.inl hmem))
        have HSE := Lib.hid hseen
        rw [hseen] at c1
        clear hseen hmem
        go_wp2
        go_roundg (n - (i + 1))
        case measure => have := HQ.out; omega
        case rel =>
          refine ⟨i + 1, vs, sn, by omega, by have := HQ.out; omega, by go_num, ⟨by rw [HSK.out]; exact HST.out.lists, HST.out.drow, HST.out.srow, fun x h1 h2 => ?_, HST.out.below, HST.out.base⟩⟩
          rw [HSK.out, HST.out.marks x h1 h2]
          constructor
          · rintro (h | ⟨j, a, b, c⟩)
            · exact .inl h
            · exact .inr ⟨j, by omega, b, c⟩
          · rintro (h | ⟨j, a, b, c⟩)
            · exact .inl h
            · by_cases e : j = i
              · subst e; subst b; exact (HST.out.marks (j + 1) (by omega) (by omega)).1 HSE.out
              · exact .inr ⟨j, by omega, b, c⟩
      · have hsf : sn (i + 1) = false := by simpa using hseen
        have hnmem : ¬ ((i : Int) + 1) ∈ (cycs n f i).flatten := fun h => by
          have := (HST.out.marks (i + 1) (by omega) (by omega)).2 (.inl (by simpa using h))
          rw [hsf] at this; cases this
        have HNM := Lib.hid hnmem
        rw [hsf] at c1
        clear hseen hsf hnmem
        go_wp2_with (refine wpList_load_row rfl 56 _ rfl _ rfl 56 _ _ _ (HST.out.drow) Try.underlying56 rfl (by kernel_rfl) ?_)
        refine (cycleFrom_any n f HF.out i hlt _).mono ?_
        rintro e w2 ⟨v9, rfl, hnew, hb2⟩
        have HP := Lib.hid (perN_spec HF.out hlt)
        have HFP := Lib.hid (fixed_per HF.out hlt)
        have hcl : (cyc n f i).length = perN n f i := cycTo_len n f i _
        have hcyc : cyc n f i = cycTo n f i (perN n f i) := rfl
        rw [hcyc] at hnew
        clear hcl hcyc
        generalize hper : perN n f i = m at HP HFP hnew
        have HPER := Lib.hid hper
        clear hper
        have hmp := HP.out.pos
        have hmn := HP.out.le
        obtain ⟨a9, cap9, rfl, ha9⟩ := hnew.1.viewI (cycTo_len n f i m)
        obtain ⟨gc, rfl⟩ := ha9 (by omega)
        have HNEW := Lib.hid hnew
        have hL2 := Lib.hid (HST.out.lists.kept hb2)
        have hD2 := Lib.hid (HST.out.drow.kept hb2)
        have hS2 := Lib.hid (HST.out.srow.kept hb2)
        have hB2 := Lib.hid (HST.out.below.trans (hb2.mono HST.out.below.size))
        have hgc : wr.heap.size ≤ gc := hnew.2 gc rfl
        have hsz2 := hb2.size
        have hslt := HST.out.srow.lt
        clear hnew hb2 ha9
        obtain ⟨wo, hwo⟩ : ∃ wo : World, wo = wr := ⟨_, rfl⟩
        subst hwo
        go_wp2
        go_loopg [11, 33] m (fun q _ x wq => ∃ t : Nat, t ≤ m ∧ q + t = m ∧ x = .int .i64 t ∧ Lists (w1.heap.size + 1 + 1) wq u7 vs (cycs n f i).length (at' (cycs n f i)) ∧ RowAt wq w1.heap.size 56 (dig8 f) ∧ RowAt wq (w1.heap.size + 1) 63 (bool9 (snAdd sn (cycTo n f i t))) ∧ Own wq 3 (.slice (some ⟨gc, 0, none⟩) m cap9) (ints (cycTo n f i m)) ∧ Below w.heap.size w wq ∧ wo.heap.size ≤ wq.heap.size)
        case atStart => exact ⟨0, Nat.zero_le _, rfl, rfl, hL2.out, hD2.out, by rw [show cycTo n f i 0 = [] from rfl, snAdd_nil]; exact hS2.out, HNEW.out.1, hB2.out, hsz2⟩
        case round =>
          clear hL2 hD2 hS2 hB2
          obtain ⟨t, htm, hq, rfl, hL, hD, hS, hO, hB, hsz⟩ := hrel
          have HQ2 := Lib.hid hq
          have HL := Lib.hid hL
          have HD := Lib.hid hD
          have HS := Lib.hid hS
          have HO := Lib.hid hO
          have HB := Lib.hid hB
          clear hq hL hD hS hO hB
          by_cases hlk : t < m
          · have hob := orb_lt HF.out hlt t
            have hat : (ints (cycTo n f i m))[t]? = some (.int .i64 (((orb n f i t : Nat) : Int) + 1)) := by
              simp [ints, cycTo, hlk]
            have c3 := HO.out.cell t _ hat
            have hmk := snAdd_mark sn (cycTo n f i t) (orb n f i t + 1)
            rw [← cycTo_succ] at hmk
            have HMK := Lib.hid hmk
            clear hat hmk
            have hset := bool9_set (snAdd sn (cycTo n f i t)) (orb n f i t + 1) (by omega)
            have c4 := HS.out.cell (orb n f i t + 1) (bool9_get _ _ (by omega))
            have f4 := HS.out.free (orb n f i t + 1)
            have HSET := Lib.hid hset
            clear hset
            generalize orb n f i t = ob at *
            have hob9 : ((ob : Nat) : Int) + 1 < 9 := by omega
            have htn : (((ob : Nat) : Int) + 1).toNat = ob + 1 := by omega
            have hti : (t : Int) < m := by omega
            go_wp2
            go_roundg (m - (t + 1))
            case measure => have := HQ2.out; omega
            case rel =>
              have hg := grownBy_set wr (w1.heap.size + 1) (ob + 1) (.bool true)
              refine ⟨t + 1, by omega, by have := HQ2.out; omega, by go_num, HL.out.grown hg (fun g q e => ?_) (fun k g hk q e => ?_), HD.out.other _ _ (by simp <;> omega), ?_, HO.out.grown hg (fun g q e => ?_), HB.out.setCell (by have := HST.out.base; simp; omega) _, by simpa using hsz⟩
              · have := HL.out.base g q
                injection e with e
                omega
              · have := HL.out.ibase k g hk q
                injection e with e
                omega
              · have := HS.out.set (ob + 1) (.bool true)
                rw [HSET.out, HMK.out] at this
                exact this
              · have e1 : gc = g := by injection q
                injection e with e
                omega
          · obtain rfl : t = m := by omega
            have hmarks : ∀ (L : List (List Int)), (L = cycs n f i ∧ t = 1 ∨ L = cycs n f i ++ [cyc n f i] ∧ t ≠ 1) → ∀ x, 1 ≤ x → x ≤ n → (snAdd sn (cycTo n f i t) x = true ↔ ((x : Int) ∈ L.flatten ∨ ∃ j, j < i + 1 ∧ x = j + 1 ∧ f j = 49 + j)) := by
              intro L hL x h1 h2
              have hm := HST.out.marks x h1 h2
              have hcy : cyc n f i = cycTo n f i t := by unfold cyc; rw [HPER.out]
              unfold snAdd
              rw [Bool.or_eq_true, hm, decide_eq_true_eq]
              rcases hL with ⟨rfl, h1t⟩ | ⟨rfl, h1t⟩
              · have hfx : f i = 49 + i := HFP.out.2 h1t
                have hin : (x : Int) ∈ cycTo n f i t ↔ x = i + 1 := by
                  rw [h1t, mem_cycTo]
                  constructor
                  · rintro ⟨j, hj, e⟩
                    obtain rfl : j = 0 := by omega
                    rw [orb_zero f hlt] at e; omega
                  · intro e; exact ⟨0, by omega, by rw [orb_zero f hlt]; omega⟩
                rw [hin]
                constructor
                · rintro ((h | ⟨j, a, b, c⟩) | h)
                  · exact .inl h
                  · exact .inr ⟨j, by omega, b, c⟩
                  · exact .inr ⟨i, by omega, h, hfx⟩
                · rintro (h | ⟨j, a, b, c⟩)
                  · exact .inl (.inl h)
                  · by_cases e : j = i
                    · subst e; exact .inr b
                    · exact .inl (.inr ⟨j, by omega, b, c⟩)
              · have hfx : ¬ f i = 49 + i := fun q => h1t (HFP.out.1 q)
                rw [List.flatten_append, hcy]
                simp only [List.flatten_cons, List.flatten_nil, List.append_nil, List.mem_append]
                constructor
                · rintro ((h | ⟨j, a, b, c⟩) | h)
                  · exact .inl (.inl h)
                  · exact .inr ⟨j, by omega, b, c⟩
                  · exact .inl (.inr h)
                · rintro ((h | h) | ⟨j, a, b, c⟩)
                  · exact .inl (.inl h)
                  · exact .inr h
                  · by_cases e : j = i
                    · subst e; exact absurd c hfx
                    · exact .inl (.inr ⟨j, by omega, b, c⟩)
            have HMARKS := Lib.hid hmarks
            clear hmarks
            by_cases h1t : t ≤ 1
            · obtain rfl : t = 1 := by omega
              have HSK := Lib.hid (cycs_skip (n := n) (.inr (HFP.out.2 rfl)))
              go_wp2
              go_roundg (n - (i + 1))
              case measure => have := HQ.out; omega
              case rel => exact ⟨i + 1, vs, _, by omega, by have := HQ.out; omega, by go_num, ⟨by rw [HSK.out]; exact HL.out, HD.out, HS.out, by rw [HSK.out]; exact HMARKS.out _ (.inl ⟨rfl, by first | rfl | trivial⟩), HB.out, HST.out.base⟩⟩
            · have hADD := cycs_add (n := n) (f := f) (i := i) (fun h => h.elim HNM.out (fun q => h1t (by have := HFP.out.1 q; omega)))
              have HADD := Lib.hid hADD
              clear hADD
              have h1i : (1 : Int) < t := by omega
              have hvl : vs.length ≤ 8 := by rw [HL.out.len]; have := cycs_len n f i; omega
              have HCY := Lib.hid (show cyc n f i = cycTo n f i t by unfold cyc; rw [HPER.out])
              go_wp2_with (at_builtin; refine wpList_app rfl (.tmp 43) (.tmp 45) 31 rfl 37 i1 (.slice none 0 0) 24 Try.underlying31 I1.out.1 I1.out.2.1 I1.out.2.2.1 I1.out.2.2.2 rfl _ _ rfl (HL.out.outer.alloc _) ⟨wr.heap.size, 0, none⟩ 1 1 [.slice (some ⟨gc, 0, none⟩) t cap9] rfl rfl ?e1 ?e2 ?e3 ?e4 ?_)
              case e1 =>
                intro j u hj
                have : j = 0 := by
                  have := (List.getElem?_eq_some_iff.1 hj).1
                  simpa using this
                subst this
                simp at hj
                subst hj
                simp [Addr.add]
              case e2 => intro u hu; simp at hu; subst hu; rfl
              case e3 => omega
              case e4 => unfold maxLen; omega
              intro v5 w5 hown5 hgrow5 hfresh5 _
              have hnew5 : ImplAt n f (i + 1) w w5 w1.heap.size v5 (vs ++ [.slice (some ⟨gc, 0, none⟩) t cap9]) (snAdd sn (cycTo n f i t)) := by
                have hL4 := HL.out.kept ((Below.refl wr.heap.size wr).alloc (Nat.le_refl _) (.cells #[.slice (some ⟨gc, 0, none⟩) t cap9] 37))
                have hC4 := HO.out.alloc (.cells #[.slice (some ⟨gc, 0, none⟩) t cap9] 37)
                have hbase := HST.out.base
                have hq1 : ∀ g, (Value.slice (some ⟨gc, 0, none⟩) t cap9).ownBlock = some g → w1.heap.size + 1 + 1 ≤ g := by
                  intro g q
                  have e1 : gc = g := by injection q
                  omega
                have hq2 : ∀ k g, k < (cycs n f i).length → (vs.getD k nilV).ownBlock = some g → (Value.slice (some ⟨gc, 0, none⟩) t cap9).ownBlock ≠ some g := by
                  intro k g hk q e
                  have e1 : gc = g := by injection e
                  have := HST.out.lists.block_lt k g hk q
                  omega
                have hlist := hL4.add hC4 (by simp; omega) hq1 hq2 hown5 hgrow5 hfresh5
                have hne : ∀ b, b < w1.heap.size + 1 + 1 → some b ≠ u7.ownBlock := fun b hb e => by
                  have := HL.out.base b e.symm
                  omega
                refine ⟨?_, ?_, ?_, ?_, ?_, hbase⟩
                · rw [HADD.out, HCY.out]
                  simp only [List.length_append, List.length_singleton]
                  exact hlist.congr fun k hk => at'_add (cycs n f i) (cycTo n f i t) k hk
                · exact (hgrow5.block _ (HD.out.push _).lt (hne _ (by omega))).trans (HD.out.push _)
                · exact (hgrow5.block _ (HS.out.push _).lt (hne _ (by omega))).trans (HS.out.push _)
                · rw [HADD.out]; exact HMARKS.out _ (.inr ⟨rfl, by omega⟩)
                · exact (HB.out.alloc (by omega) _).grown hgrow5 (by simp; omega) (fun b hb => by have := HL.out.base b hb; omega)
              have HNEW5 := Lib.hid hnew5
              clear hown5 hgrow5 hfresh5 hnew5
              go_wp2
              go_roundg (n - (i + 1))
              case measure => have := HQ.out; omega
              case rel => exact ⟨i + 1, _, _, by omega, by have := HQ.out; omega, by go_num, HNEW5.out⟩
    · obtain rfl : i = n := by omega
      go_wp2
      go_ret2
      exact ⟨u7, vs, rfl, HST.out.lists.lower (by have := HST.out.base; omega), HST.out.below⟩
end Go.Proofs.Ytnildepdpkbekaa
