/- StillBells in the model. -/
import Derived.Test.YtfocnflnpabmkaaD8
namespace Go.Proofs.Ytfocnflnpabmkaa
open Go.RowKit
set_option linter.unusedSimpArgs false
set_option linter.unusedVariables false

section
variable {P : Program} (w : World)
/-- an append leaves what the old slice reads as it was -/
theorem run_append_keeps (t ty e : TypeId) (i : TypeInfo) (z : Value) (bytes : Nat) (ht : P.underlying t = some (.slice e)) (hi : P.info? e = some i) (hz : i.zero = some z)
    (hsize : i.size = 1) (hby : i.bytes = bytes) (hzs : z.cells.size = 1) (v : Value) (xs : List Value) (hown : Own w e v xs)
    (a : Addr) (m c : Nat) (news : List Value) (hl : news.length = m) (hnews : ∀ j u, news[j]? = some u → w.cell? (a.add j) = some u) (h1 : ∀ u ∈ news, u.oneCell' = true)
    (hbound : (xs.length + m) * bytes ≤ 140737488355328) (h63 : xs.length + m ≤ maxLen) :
    ∃ v' w', (Builtin.append_ #[t, t] ty #[v, .slice (some a) m c]).run P w = .ok v' w' ∧ Own w' e v' (xs ++ news) ∧ w.grownBy w' v.ownBlock ∧ FreshOr w v v' ∧ Own w' e v xs := by
  obtain ⟨v', w', hr, hO, hG, hF, hN⟩ := run_append_block (P := P) w t ty e i z bytes ht hi hz hsize hby hzs v xs hown a m c news hl hnews h1 hbound h63
  refine ⟨v', w', hr, hO, hG, hF, ?_⟩
  rcases hown.2 with ⟨rfl, h0⟩ | ⟨g0, cap, cur, rfl, _, hrow, hle, hcm, hcs, htk⟩
  · have hx : xs = [] := List.eq_nil_of_length_eq_zero h0
    subst hx
    exact World.ownsRow_nil _ _ _ _
  · by_cases hroom : xs.length + m ≤ cap
    · have hfit : xs.length * i.size + news.length ≤ cur.size := by rw [hsize, hl, hcs]; omega
      have hr2 := run_append_room (P := P) w t ty e i ht hi g0 xs.length cap cur hrow a m c news (by rw [hsize, hl]; omega) hnews h1 hroom hfit
      rw [hr] at hr2
      injection hr2 with e1 e2
      subst e1
      rcases hO.2 with ⟨hv, _⟩ | ⟨g1, cap1, cur1, hv1, _, hrow1, hle1, hcm1, hcs1, htk1⟩
      · cases hv
      · injection hv1 with e3 e4 e5
        injection e3 with e3
        injection e3 with e3
        subst e3 e5
        refine ⟨by simp, .inr ⟨g0, cap, cur1, rfl, Nat.zero_le _, hrow1, hle, hcm1, hcs1, ?_⟩⟩
        have h2 : cur1.toList.take (xs.length * 1) = (cur1.toList.take ((xs ++ news).length * 1)).take xs.length := by
          rw [List.take_take]
          congr 1
          simp
        rw [h2, htk1]
        simp
    · have holds : ∀ j u, xs[j]? = some u → w.cell? ((⟨g0, 0, none⟩ : Addr).add j) = some u := World.ownsRow.cells hown (g := g0) rfl
      have hsm : ((xs.length + m : Nat) : Int) ≤ 9223372036854775807 := by simp only [maxLen] at h63; omega
      have hr2 := run_append_grow (P := P) w t ty e i z ht hi hz ⟨g0, 0, none⟩ xs.length cap xs (by rw [hsize]; omega) holds a m c news (by rw [hsize, hl]; omega) hnews (by omega) hsm (growslice_fits (by omega) (by rw [hby]; exact hbound))
      rw [hr] at hr2
      injection hr2 with e1 e2
      rw [e2]
      exact (hown.drewN 1).alloc _
end

theorem wpList_appK {P : Program} {wr : World} {ops : Array Oper} {rest : List Oper} {o : Oper} {a : Act} {Q : Exit → Act → World → Prop} {u : Value} (hgd : o.guard = none) (s x : Operand) (t : TypeId)
    (ho : o.op = .call { callee := .builtin .append, args := #[s, x], argTypes := #[t, t] })
    (e : TypeId) (i : TypeInfo) (z : Value) (bytes : Nat) (ht : P.underlying t = some (.slice e)) (hi : P.info? e = some i) (hz : i.zero = some z)
    (hsize : i.size = 1) (hby : i.bytes = bytes) (hzs : z.cells.size = 1) (B : Nat) (w0 : World) (v : Value) (xs : List Value) (hs : a.eval s = v) (hnew : New B wr e v xs)
    (hx : a.eval x = .slice (some ⟨wr.heap.size, 0, none⟩) 1 1) (h1 : u.oneCell' = true) (hB : B ≤ wr.heap.size) (hbel : Below B w0 wr)
    (hlen : xs.length ≤ 100000) (hbytes : bytes ≤ 1000)
    (h : ∀ v' w', New B w' e v' (xs ++ [u]) → New B w' e v xs → KeptBut wr w' v → Below B w0 w' → wr.heap.size ≤ w'.heap.size → wpList P ops Q rest (a.put o.dst v') w') : wpList P ops Q (o :: rest) a (wr.alloc (.cells #[u] e)) := by
  refine wpList_plain hgd fun _ hK => by
    obtain ⟨v', w', hr, hown, hgrow, hfresh, hold⟩ := run_append_keeps (P := P) (wr.alloc (.cells #[u] e)) t o.type e i z bytes ht hi hz hsize hby hzs v xs (hnew.own.alloc _) ⟨wr.heap.size, 0, none⟩ 1 1 [u] rfl (by
      intro j y hj
      have : j = 0 := by
        have := (List.getElem?_eq_some_iff.1 hj).1
        simpa using this
      subst this
      simp at hj
      subst hj
      rw [show (⟨wr.heap.size, 0, none⟩ : Addr).add 0 = ⟨wr.heap.size, 0, none⟩ from rfl]
      exact (RowAt.new wr e #[u]).cell 0 rfl) (by intro y hy; simp at hy; subst hy; exact h1) (by
      have : (xs.length + 1) * bytes ≤ 100001 * 1000 := Nat.mul_le_mul (by omega) hbytes
      omega) (by unfold maxLen; omega)
    unfold Oper.wp execOp
    simp only [ho, resolve, invoke, builtin, Sem.run_bind, Sem.run_pure, Result.andThen_ok, List.map_toArray, List.map_cons, List.map_nil, hs, hx, hr]
    have hbase : ∀ g, v'.ownBlock = some g → B ≤ g := fun g hg => by
      rcases hfresh g hg with h | h
      · exact hnew.base g h
      · simp at h; omega
    refine hK _ _ (h v' w' ⟨hown, hbase⟩ ⟨hold, hnew.base⟩ (fun k hk hne => ?_) ?_ ?_)
    · exact (hgrow.block k (by simp; omega) (fun e => hne e.symm)).trans (heap_alloc_old wr _ hk)
    · exact (hbel.alloc hB _).grown hgrow (by simp; omega) (fun g hg => hnew.base g hg)
    · have := hgrow.size
      simp at this
      omega
/-- slices of different elements lie apart -/
theorem New.apartNew {B B' : Nat} {W : World} {e T : TypeId} {v u : Value} {xs ys : List Value} (h : New B W e v xs) (hu : New B' W T u ys) (hne : e ≠ T) : ∀ g, v.ownBlock = some g → u.ownBlock ≠ some g := by
  intro g hg hu'
  rcases h.own.2 with ⟨rfl, _⟩ | ⟨g1, c1, cur1, rfl, _, h1, _⟩
  · cases hg
  · rcases hu.own.2 with ⟨rfl, _⟩ | ⟨g2, c2, cur2, rfl, _, h2, _⟩
    · cases hu'
    · obtain rfl : g1 = g := by simpa [Value.ownBlock] using hg
      obtain rfl : g2 = g1 := by simpa [Value.ownBlock] using hu'
      rw [h1] at h2
      injection h2 with h2
      injection h2 with _ h3 _
      exact hne h3

def filtR (p : Nat → Bool) (i k : Nat) : List Nat := ((List.range' i k).filter p).map (· + 1)
theorem filtR_yes {p : Nat → Bool} {i k : Nat} (h : p i = true) : filtR p i (k + 1) = (i + 1) :: filtR p (i + 1) k := by
  unfold filtR
  rw [List.range'_succ, List.filter_cons_of_pos h]
  rfl
theorem filtR_no {p : Nat → Bool} {i k : Nat} (h : p i = false) : filtR p i (k + 1) = filtR p (i + 1) k := by
  unfold filtR
  rw [List.range'_succ, List.filter_cons_of_neg (by simp [h])]
def stillB (fs : List (Nat → Nat)) (i : Nat) : Bool := fs.all fun c => c i == 49 + i
theorem stillL_filt (n : Nat) (fs : List (Nat → Nat)) : stillL n fs = filtR (stillB fs) 0 n := by
  unfold stillL filtR stillB
  rw [List.range_eq_range']
theorem stillL_len (n : Nat) (fs : List (Nat → Nat)) : (stillL n fs).length ≤ n := by
  unfold stillL
  rw [List.length_map]
  exact Nat.le_trans (List.length_filter_le _ _) (by simp)
/-- rows as texts -/
def rowVs (n : Nat) (fs : List (Nat → Nat)) : List Value := fs.map fun f => .string (strOf n f)
theorem strs_rowsL (n : Nat) (fs : List (Nat → Nat)) : strs (rowsL n fs) = rowVs n fs := by
  unfold rowVs rowsL strs
  rw [List.map_map]
  apply List.map_congr_left
  intro f _
  show Value.string (txt (rowL n f)) = _
  rw [txt_rowL]

theorem all_take {α : Type} (p : α → Bool) (fs : List α) (j : Nat) (hj : j < fs.length) : (fs.take (j + 1)).all p = ((fs.take j).all p && p fs[j]) := by
  rw [List.take_succ_eq_append_getElem hj, List.all_append]
  simp

set_option maxRecDepth 100000 in
set_option maxHeartbeats 1000000 in
theorem sStillBells_yes (s : ByteArray) (hs : s.size ≤ maxLen) (n : Nat) (v : Value) (L : List (List Nat)) (w : World) (h : Txts w v L) (hl : L.length ≤ 2000000) (hsm : Small L) (hg : goodM s n L = true) :
    Calls Try.prog 38 #[.agg #[.string s, .int .i64 n, v]] w (NumsAny (stillL n (leadF n (chR n L) (rdf n) ++ [headF n (chR n L)])) true w) := by
  obtain ⟨a, cap, rfl, hcap, -⟩ := id h
  have hga := (goodM_parts hg).1
  have hr := goodAll_range hga
  have hlen := goodAll_len hga
  have h8 : n ≤ 8 := by omega
  have hrd : IsRow n (rdf n) := isRow_rdf (by omega) (by omega)
  have hrows : Rows n (leadF n (chR n L) (rdf n) ++ [headF n (chR n L)]) := (rows_lead (goodAll_rows hga) hrd).app (fun x hx => by
    simp at hx; subst hx
    exact isRow_head (by omega) (by omega) (goodAll_rows hga))
  have HT := Lib.hid h
  have HR0 := Lib.hid (RowAt.new w 26 #[.string s, .int .i64 n, .slice a L.length cap])
  have HB0 := Lib.hid ((Below.refl _ w).alloc (Nat.le_refl _) (.cells #[.string s, .int .i64 n, .slice a L.length cap] 26))
  have HG := Lib.hid (fun w h => l4Good_any s hs n (.slice a L.length cap) L w h hl hsm)
  rw [hg] at HG
  have HRN := Lib.hid (l1Rounds_any n (by omega))
  have HL := Lib.hid (fun w h => l4Lead_any n (.slice a L.length cap) L (rdf n) hrd hga w h)
  rw [strOf_rdf] at HL
  unfold LeadOut at HL
  have hh : endF n (chR n L) (rdf n) = headF n (chR n L) := rfl
  rw [hh, strs_rowsL] at HL
  have hll : (leadF n (chR n L) (rdf n)).length = L.length := by rw [leadF_len, chR_len]
  obtain ⟨ld, hld⟩ : ∃ ld, leadF n (chR n L) (rdf n) = ld := ⟨_, rfl⟩
  obtain ⟨hd, hhd⟩ : ∃ hd, headF n (chR n L) = hd := ⟨_, rfl⟩
  rw [hld] at HL hrows hll ⊢
  rw [hhd] at HL hrows ⊢
  obtain ⟨fs, hfs⟩ : ∃ fs, ld ++ [hd] = fs := ⟨_, rfl⟩
  have hVS : rowVs n ld ++ [.string (strOf n hd)] = rowVs n fs := by rw [← hfs]; simp [rowVs]
  have hfl : fs.length = L.length + 1 := by rw [← hfs]; simp [hll]
  have hvl : (rowVs n ld).length = L.length := by rw [← hll]; simp [rowVs]
  rw [hfs] at hrows ⊢
  have hres := stillL_filt n fs
  have hrl := stillL_len n fs
  generalize stillL n fs = res at *
  have HRES := Lib.hid hres
  have HROWS := Lib.hid hrows
  have HVS := Lib.hid hVS
  have HFL := Lib.hid hfl
  have HVL := Lib.hid hvl
  obtain ⟨th, hth⟩ : ∃ th, strOf n hd = th := ⟨_, rfl⟩
  rw [hth] at HL HVS
  generalize rnds n = rn at *
  obtain ⟨i0, hi0, hz0, hz1, hz2⟩ := info_parts infoText
  have I0 := Lib.hid (⟨hi0, hz0, hz1, hz2⟩ : _ ∧ _ ∧ _ ∧ _)
  clear hi0 hz0 hz1 hz2
  obtain ⟨i1, hi1, hz0, hz1, hz2⟩ := info_parts infoInt
  have I1 := Lib.hid (⟨hi1, hz0, hz1, hz2⟩ : _ ∧ _ ∧ _ ∧ _)
  clear hi1 hz0 hz1 hz2 h hcap hl hsm hg hga hrd hrows hll hld hhd hfs hVS hfl hvl hres hth hh hr
  generalize L.length = m at *
  go_enter Try.func38, Try.ntmps38
  go_wp2_with (first | (refine wpList_load_row rfl 26 _ rfl _ rfl 26 _ _ _ (HR0.out) Try.underlying26 rfl (by kernel_rfl) ?_) | fail)
  refine (HG.out _ (HT.out.kept HB0.out)).mono ?_
  rintro e w1 ⟨rfl, hb1⟩
  have HR1 := Lib.hid (HR0.out.kept hb1)
  have HB1 := Lib.hid (HB0.out.trans (hb1.mono HB0.out.size))
  clear hb1 HG HB0 HR0
  have c1 := HR1.out.cell 1 rfl
  have c2 := HR1.out.cell 2 rfl
  go_wp2
  have hlt : w.heap.size < w1.heap.size := HR1.out.lt
  have HS : Hid (∀ W, (W.cell? ⟨w.heap.size, 1, none⟩ = some (.int .i64 n) ∧ W.cell? ⟨w.heap.size, 2, none⟩ = some (.slice a m cap) ∧ Below w1.heap.size w1 W) → Calls Try.prog 89 #[.slice a m cap, .string rn] W fun e w' => (∃ b c, e = .returned (.tuple #[.slice b m c, .string th]) ∧ New w.heap.size w' 9 (.slice b m c) (rowVs n ld)) ∧ (w'.cell? ⟨w.heap.size, 1, none⟩ = some (.int .i64 n) ∧ w'.cell? ⟨w.heap.size, 2, none⟩ = some (.slice a m cap) ∧ Below w1.heap.size w1 w')) := Lib.hid (fun W hW => by
    obtain ⟨h1, h2, hW⟩ := hW
    refine (HL.out W ((HT.out.kept HB1.out).kept hW)).mono fun e w' h => ?_
    obtain ⟨v, rfl, hn, hb⟩ := h
    obtain ⟨b, c, rfl, -⟩ := hn.own.view
    rw [HVL.out] at hn ⊢
    have hlt2 := Nat.lt_of_lt_of_le hlt hW.size
    exact ⟨⟨b, c, rfl, hn.lower (by omega)⟩, (hb.cell (p := ⟨w.heap.size, 1, none⟩) hlt2).trans h1, (hb.cell (p := ⟨w.heap.size, 2, none⟩) hlt2).trans h2, hW.trans (hb.mono hW.size)⟩)
  clear hlt
  go_region_held3 (fun w' => w'.cell? ⟨w.heap.size, 1, none⟩ = some (.int .i64 n) ∧ w'.cell? ⟨w.heap.size, 2, none⟩ = some (.slice a m cap) ∧ Below w1.heap.size w1 w') (first | exact ⟨c1, c2, Below.refl _ _⟩ | exact ⟨c1, c2, (Below.refl _ _).drew⟩ | assumption) (first | (go_at_call 90; refine (HRN.out _).mono ?_; rintro e4 w4 ⟨rfl, rfl⟩) | (go_at_call 89; refine (HS.out _ (by first | assumption | exact ⟨c1, c2, Below.refl _ _⟩ | exact ⟨c1, c2, (Below.refl _ _).drew⟩)).mono ?_; rintro e5 w5 ⟨⟨b5, k5, rfl, hn5⟩, hS5⟩) | fail)
  have HN5 := Lib.hid hn5
  have HR5 := Lib.hid (HR1.out.kept hS5.2.2)
  have HB5 := Lib.hid (HB1.out.trans (hS5.2.2.mono HB1.out.size))
  clear hn5 hS5 HR1 HB1 HS HL HRN c1 c2 HT
  go_wp2
  go_loopg [4, 7, 8, 10] n (fun q ov bv _ _ wr => ∃ (i : Nat) (acc : List Nat), q + i = n ∧ bv = .int .i64 ((i : Int) + 1) ∧ New w.heap.size wr 3 ov (nums acc) ∧ acc ++ filtR (stillB fs) i q = res ∧ acc.length ≤ 8 ∧ New w.heap.size wr 9 (.slice b5 m k5) (rowVs n ld) ∧ RowAt wr w.heap.size 26 #[.string s, .int .i64 n, .slice a m cap] ∧ Below w.heap.size w wr)
  case atStart => exact ⟨0, [], by omega, rfl, New.nil _ _ _, by simpa using HRES.out.symm, by simp, HN5.out, HR5.out, HB5.out⟩
  case round =>
    clear HN5 HR5 HB5 HRES
    obtain ⟨i, acc, hq, rfl, hn, hacc, hal, hnl, hr, hb⟩ := hrel
    have HN := Lib.hid hn
    have HACC := Lib.hid hacc
    have HL := Lib.hid hnl
    have HR := Lib.hid hr
    have HB := Lib.hid hb
    have c1 := hr.cell 1 rfl
    obtain ⟨a9, c9, hv9, -⟩ := hn.own.view
    rw [nums_len] at hv9
    subst hv9
    clear hn hacc hr hb hnl
    by_cases hlt : i < n
    · obtain ⟨q', rfl⟩ : ∃ q', gk = q' + 1 := ⟨gk - 1, by omega⟩
      have hli : (i : Int) + 1 ≤ n := by omega
      have hii : ((i : Int) + 1).toNat - 1 = i := by omega
      go_wp2_with (at_builtin; refine wpList_appK rfl (.tmp 29) (.tmp 31) 24 rfl 9 i0 (.string ⟨#[]⟩) 16 Try.underlying24 I0.out.1 I0.out.2.1 I0.out.2.2.1 I0.out.2.2.2 rfl w.heap.size w _ (rowVs n ld) rfl HL.out rfl rfl HB.out.size HB.out (by rw [HVL.out]; omega) (by omega) ?_)
      intro v6 w6 hn6 hl6 hk6 hb6 _
      rw [HVS.out] at hn6
      have HL6 := Lib.hid hl6
      have HN6 : Hid (New w.heap.size w6 3 (.slice a9 acc.length c9) (nums acc)) := Lib.hid ⟨HN.out.own.besides hk6 (fun g hg => HN.out.apartNew HL.out (by decide) g hg), HN.out.base⟩
      have HR6 := Lib.hid (hk6.row HR.out (HL.out.apartRow HR.out (by decide)))
      have HB6 := Lib.hid hb6
      obtain ⟨a6, c6, hv6, ha6⟩ := hn6.own.view
      have hrvl : (rowVs n fs).length = m + 1 := by rw [← HFL.out]; simp [rowVs]
      rw [hrvl] at hv6 ha6
      obtain ⟨g6, rfl⟩ := ha6 (by omega)
      subst hv6
      have HV6 := Lib.hid hn6.own
      clear hn6 hl6 hk6 hb6 HL HN HR HB c1 ha6 hrvl
      have c1 := HR6.out.cell 1 rfl
      have hmi : (m : Int) ≤ 40 := by omega
      go_wp2
      go_loopg [8, 10, 34] (m + 1) (fun q st _ ix wq => ∃ j : Nat, q + j = m + 1 ∧ ix = .int .i64 j ∧ st = .bool ((fs.take j).all fun c => c i == 49 + i) ∧ wq = w6)
      case atStart => exact ⟨0, by omega, rfl, by simp, rfl⟩
      case round =>
        obtain ⟨j, hqj, rfl, rfl, rfl⟩ := hrel
        by_cases hj : j < m + 1
        · have hjf : j < fs.length := by rw [HFL.out]; exact hj
          have hall := all_take (fun c : Nat → Nat => c i == 49 + i) fs j hjf
          have hrow := HROWS.out _ (List.getElem_mem hjf)
          have hcj := HV6.out.cell j (.string (strOf n fs[j])) (by simp [rowVs, hjf])
          have hjx : (j : Int) < (m : Int) + 1 := by omega
          have hjx2 : (j : Int) < ((m + 1 : Nat) : Int) := by omega
          have hlo := hrow.lo i hlt
          have hhi := hrow.hi i hlt
          have HAT := Lib.hid (l1At_any n fs[j] (strOf n fs[j]) (isStr_row hrow) ((i : Int) + 1) (by omega) hli h8 (by rw [hii]; omega))
          rw [hii] at HAT
          generalize fs[j] = f at *
          generalize strOf n f = tj at *
          generalize ((fs.take j).all fun c : Nat → Nat => c i == 49 + i) = sb at *
          have HALL := Lib.hid hall
          clear hall hrow
          cases sb
          · go_wp2
            go_roundg (m - j)
            case measure => omega
            case rel => exact ⟨j + 1, by omega, by go_num, by rw [HALL.out]; rfl, rfl⟩
          · cases hh : (f i == 49 + i)
            · have hne : ¬ ((f i : Int) - 48 = (i : Int) + 1) := by
                intro he
                have : f i = 49 + i := by omega
                rw [this] at hh
                simp at hh
              rw [hh] at HALL
              clear hh
              go_wp2_with (first | (go_at_call 91; refine (HAT.out _).mono ?_; rintro e w2 ⟨rfl, rfl⟩) | fail)
              go_roundg (m - j)
              case measure => omega
              case rel => exact ⟨j + 1, by omega, by go_num, by rw [HALL.out]; exact congrArg Value.bool (beq_eq_false_iff_ne.2 hne), rfl⟩
            · have hne : (f i : Int) - 48 = (i : Int) + 1 := by
                have : f i = 49 + i := by simpa using hh
                omega
              rw [hh] at HALL
              rw [hne] at HAT
              clear hh hne
              go_wp2_with (first | (go_at_call 91; refine (HAT.out _).mono ?_; rintro e w2 ⟨rfl, rfl⟩) | fail)
              go_roundg (m - j)
              case measure => omega
              case rel => exact ⟨j + 1, by omega, by go_num, by rw [HALL.out]; rfl, rfl⟩
        · obtain rfl : j = m + 1 := by omega
          have hst : ((fs.take (m + 1)).all fun c => c i == 49 + i) = stillB fs i := by
            rw [List.take_of_length_le (by rw [HFL.out]; exact Nat.le_refl _)]; rfl
          rw [hst]
          have hjx : ¬ (((m + 1 : Nat) : Int) < ((m + 1 : Nat) : Int)) := by omega
          have hjx2 : ¬ (((m + 1 : Nat) : Int) < (m : Int) + 1) := by omega
          have hacc := HACC.out
          cases hh : stillB fs i
          · rw [filtR_no hh] at hacc
            have HACC2 := Lib.hid hacc
            clear hh hacc HACC hst
            go_wp2
            go_roundg q'
            case measure => omega
            case rel => exact ⟨i + 1, acc, by omega, by go_num, HN6.out, HACC2.out, hal, HL6.out, HR6.out, HB6.out⟩
          · rw [filtR_yes hh] at hacc
            have hle : (acc ++ ((i + 1) :: filtR (stillB fs) (i + 1) q')).length ≤ 8 := by rw [hacc]; omega
            simp only [List.length_append, List.length_cons] at hle
            have hacc2 : (acc ++ [i + 1]) ++ filtR (stillB fs) (i + 1) q' = res := by rw [← hacc]; simp
            have HACC2 := Lib.hid hacc2
            clear hh hacc HACC hst hacc2
            go_wp2_with (at_builtin; refine wpList_app1 rfl (.tmp 48) (.tmp 50) 47 rfl 3 i1 (.int .i64 0) 8 Try.underlying47 I1.out.1 I1.out.2.1 I1.out.2.2.1 I1.out.2.2.2 rfl w.heap.size w _ (nums acc) rfl HN6.out rfl rfl HB6.out.size HB6.out (by rw [nums_len]; omega) (by omega) ?_)
            intro v7 w7 hn7 hk7 hb7 _
            have e4 : nums acc ++ [.int .i64 ((i : Int) + 1)] = nums (acc ++ [i + 1]) := nums_snoc acc (i + 1)
            rw [e4] at hn7
            have HN7 := Lib.hid hn7
            have HB7 := Lib.hid hb7
            have HR7 := Lib.hid (hk7.row HR6.out (HN6.out.apartRow HR6.out (by decide)))
            have HL7 : Hid (New w.heap.size w7 9 (.slice b5 m k5) (rowVs n ld)) := Lib.hid ⟨HL6.out.own.besides hk7 (fun g hg => HL6.out.apartNew HN6.out (by decide) g hg), HL6.out.base⟩
            clear hn7 hk7 hb7 HN6 HB6 HR6 HL6 c1
            go_wp2
            go_roundg q'
            case measure => omega
            case rel => exact ⟨i + 1, acc ++ [i + 1], by omega, by go_num, HN7.out, HACC2.out, by simp; omega, HL7.out, HR7.out, HB7.out⟩
    · obtain rfl : gk = 0 := by omega
      obtain rfl : i = n := by omega
      have hli : ¬ ((i : Int) + 1 ≤ i) := by omega
      have hacc := HACC.out
      have e0 : filtR (stillB fs) i 0 = [] := rfl
      rw [e0, List.append_nil] at hacc
      subst hacc
      go_wp2
      go_ret2
      exact ⟨_, rfl, HN.out, HB.out⟩
end Go.Proofs.Ytfocnflnpabmkaa
