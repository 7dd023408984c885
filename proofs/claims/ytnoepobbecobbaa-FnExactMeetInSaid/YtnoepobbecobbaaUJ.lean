/- slices.Grow and slices.Concat of lists of rows. -/
import Derived.Test.YtnoepobbecobbaaSE
import Derived.Laws.AppendOwn
namespace Go.Proofs.Ytnoepobbecobbaa
open Go.RowKit
set_option linter.unusedSimpArgs false
set_option linter.unusedVariables false

/-- rows at an address -/
def DigA (W : World) (g off cap : Nat) (fs : List (Nat → Nat)) : Prop := g < W.heap.size ∧ fs.length ≤ cap ∧ ∀ i (h : i < fs.length), W.rangeAt g (off + i * 8) (cells8 fs[i])
theorem DigA.kept {W W' : World} {g off cap : Nat} {fs : List (Nat → Nat)} (h : DigA W g off cap fs) (hb : Below W.heap.size W W') : DigA W' g off cap fs :=
  ⟨Nat.lt_of_lt_of_le h.1 hb.size, h.2.1, fun i hi j u hu => (hb.cell (p := ⟨g, off + i * 8 + j, none⟩) h.1).trans (h.2.2 i hi j u hu)⟩

theorem wpList_app8A {w w0 : World} {ops : Array Oper} {rest : List Oper} {o : Oper} {a : Act} {Q : Exit → Act → World → Prop} (hgd : o.guard = none) (s x : Operand) (t : TypeId)
    (ho : o.op = .call { callee := .builtin .append, args := #[s, x], argTypes := #[t, t] }) (ht : Try.prog.underlying t = some (.slice 80))
    (B B0 : Nat) (hB0 : B0 ≤ B) (v : Value) (fs gs : List (Nat → Nat)) (hs : a.eval s = v) (hnew : NewD B w v fs)
    (g off cap : Nat) (hx : a.eval x = .slice (some ⟨g, off, none⟩) gs.length cap) (hdig : DigA w g off cap gs) (hB : B ≤ w.heap.size) (hbel : Below B0 w0 w) (hlen : fs.length + gs.length ≤ 100000)
    (h : ∀ v' w', NewD B w' v' (fs ++ gs) → KeptBut w w' v → Below B0 w0 w' → w.heap.size ≤ w'.heap.size → wpList Try.prog ops Q rest (a.put o.dst v') w') : wpList Try.prog ops Q (o :: rest) a w := by
  obtain ⟨hlt, hcap, hc⟩ := hdig
  obtain ⟨i, hi, hz, hsz, hby⟩ := info_parts8
  have hnews : ∀ j u, (flat gs)[j]? = some u → w.cell? ((⟨g, off, none⟩ : Addr).add j) = some u := by
    intro j u hu
    have hj : j < gs.length * 8 := by have := (List.getElem?_eq_some_iff.1 hu).1; rwa [flat_len] at this
    have hi8 : j / 8 < gs.length := by omega
    have hj8 : j % 8 < 8 := Nat.mod_lt _ (by omega)
    have ej : j = j / 8 * 8 + j % 8 := by omega
    obtain ⟨u', hu'⟩ : ∃ u', (cells8 gs[j / 8])[j % 8]? = some u' := ⟨_, List.getElem?_eq_getElem (show j % 8 < (cells8 gs[j / 8]).length from hj8)⟩
    have h1 := flat_at gs (j / 8) hi8 (j % 8) u' hu'
    rw [← ej, hu] at h1
    obtain rfl : u = u' := Option.some.inj h1
    have := hc (j / 8) hi8 (j % 8) u hu'
    rw [Addr.add_mid]
    rwa [show off + j / 8 * 8 + j % 8 = off + j by omega] at this
  have hbound : (fs.length + gs.length) * 8 ≤ 140737488355328 := by omega
  refine wpList_plain hgd fun _ hK => ?_
  obtain ⟨v', w', hr, hO, hG, -⟩ := run_append_own (P := Try.prog) w B t o.type 80 i (.agg zero8) 8 8 ht hi hz hsz hby rfl (by omega) v fs.length (flat fs) hnew ⟨g, off, none⟩ gs.length cap (flat gs) (flat_len gs) hnews (flat_one gs) (by unfold maxLen; omega) hbound hB
  unfold Oper.wp execOp
  simp only [ho, resolve, invoke, builtin, Sem.run_bind, Sem.run_pure, Result.andThen_ok, List.map_toArray, List.map_cons, List.map_nil, hs, hx, hr]
  refine hK _ _ (h v' w' ?_ (fun k hk hne => hG.block k hk (fun e => hne e.symm)) (hbel.grown hG (Nat.le_trans hB0 hB) (fun k hk => Nat.le_trans hB0 (hnew.lt k hk).1)) hG.size)
  unfold NewD
  rw [flat_app, List.length_append]
  exact hO

section
variable {P : Program} (w : World)
/-- zeros appended to nil, elements of eight cells -/
theorem run_append_made8 (t u ty e : TypeId) (i : TypeInfo) (z : Value) (ht : P.underlying t = some (.slice e)) (hu : P.underlying u = some (.int .i64)) (hi : P.info? e = some i) (hz : i.zero = some z)
    (n : Nat) (h0 : 0 < n) (h63 : n ≤ 100000) (hsz : i.size = 8) (hb : i.bytes = 8) :
    (Builtin.append_ #[t, u] ty #[.slice none 0 0, .int .i64 n]).run P w =
      .ok (.slice (some ⟨w.heap.size, 0, none⟩) n (grownCap w n 0 e)) (w.drew.alloc (.cells (Builtin.zeroCells z.cells n ++ Builtin.zeroCells z.cells (grownCap w n 0 e - n)) e)) := by
  have hn : n ≠ 0 := by omega
  have hw : IntKind.i64.wrap (n : Int) = n := IntWalk.i64_in _ ⟨by omega, by omega⟩
  have h1 : ¬ ((n : Int) < 0) := by omega
  have h2 : ¬ (281474976710656 < (n : Int) * 8) := by omega
  have h63' : ¬ (9223372036854775807 < (n : Int)) := by omega
  have h48' : ¬ (281474976710656 < Builtin.nextslicecap n 0 * 8) := by rw [nextslicecap_zero h0]; omega
  simp [Builtin.append_, run_underlying ht, run_underlying hu, sizeOf, typeInfo, zeroValue, hi, hz, hb, hsz, asInt, asIntOf, hw, h1, h2, Builtin.lenOf, hn, h63', h48', Question.forced, run_firstCells_none, newRow, grownCap]
  exact fun h => absurd h (by omega)
end

theorem wpList_appMade8 {w : World} {ops : Array Oper} {rest : List Oper} {o : Oper} {a : Act} {Q : Exit → Act → World → Prop} (hgd : o.guard = none) (s x : Operand) (t u : TypeId)
    (ho : o.op = .call { callee := .builtin .append, args := #[s, x], argTypes := #[t, u] })
    (ht : Try.prog.underlying t = some (.slice 80)) (hu : Try.prog.underlying u = some (.int .i64))
    (hs : a.eval s = .slice none 0 0) (n : Nat) (hx : a.eval x = .int .i64 n) (h0 : 0 < n) (h63 : n ≤ 100000)
    (h : ∀ c w', n ≤ c → NewD w.heap.size w' (.slice (some ⟨w.heap.size, 0, none⟩) 0 c) [] → Below w.heap.size w w' → wpList Try.prog ops Q rest (a.put o.dst (.slice (some ⟨w.heap.size, 0, none⟩) n c)) w') : wpList Try.prog ops Q (o :: rest) a w :=
  wpList_plain hgd fun _ hK => by
    obtain ⟨i, hi, hz, hsz, hby⟩ := info_parts8
    have hr := run_append_made8 (P := Try.prog) w t u o.type 80 i (.agg zero8) ht hu hi hz n h0 h63 hsz hby
    have hge := grownCap_ge w n 0 80
    have hle := grownCap_le_maxLen w n 0 80 (by unfold maxLen; omega)
    unfold Oper.wp execOp
    simp only [ho, resolve, invoke, builtin, Sem.run_bind, Sem.run_pure, Result.andThen_ok, List.map_toArray, List.map_cons, List.map_nil, hs, hx, hr]
    refine hK _ _ (h _ _ hge ⟨rfl, .inr ⟨w.heap.size, grownCap w n 0 80, Builtin.zeroCells (Value.agg zero8).cells n ++ Builtin.zeroCells (Value.agg zero8).cells (grownCap w n 0 80 - n), rfl, Nat.le_refl _, ?_, Nat.zero_le _, hle, ?_, by simp [flat]⟩⟩ ((below_drewN (Below.refl w.heap.size w) 1).alloc (Nat.le_refl _) _))
    · exact heap_alloc_new w.drew _
    · have hz1 : ∀ k, (Builtin.zeroCells (Value.agg zero8).cells k).size = k * 8 := fun k => by simp [Builtin.zeroCells, zero8, Value.cells]
      rw [Array.size_append, hz1, hz1]
      omega

set_option maxRecDepth 100000 in
theorem cutD_h (g off m cap k : Nat) (hk : k ≤ m) (hm : m ≤ cap) (h1 : 1 ≤ cap) (W' : World) :
    (Instr.sliceAt 62 (.slice (some ⟨g, off, none⟩) m cap) none (some (.int .i64 k)) none).run Try.prog W' = .ok (.slice (some ⟨g, off, none⟩) k cap) W' := by
  rw [run_sliceAt_slice W' _ _ _ _ _ Try.underlying62, run_slice_h W' _ _ _ _ Try.underlying62 .i64 _ (by omega) (by omega), show (sizeOf (Try.prog.elem 62)).run Try.prog W' = .ok 8 W' by kernel_rfl]
  simp only [Result.andThen, sliced]
  have h0 : cap ≠ 0 := by omega
  simp [h0, Addr.add]
set_option maxRecDepth 100000 in
theorem cutD_l (g off m cap k : Nat) (hk : k < m) (hm : m ≤ cap) (W' : World) :
    (Instr.sliceAt 62 (.slice (some ⟨g, off, none⟩) m cap) (some (.int .i64 k)) none none).run Try.prog W' = .ok (.slice (some ⟨g, off + k * 8, none⟩) (m - k) (cap - k)) W' := by
  rw [run_sliceAt_slice W' _ _ _ _ _ Try.underlying62, run_slice_l W' _ _ _ _ Try.underlying62 .i64 _ (by omega) (by omega), show (sizeOf (Try.prog.elem 62)).run Try.prog W' = .ok 8 W' by kernel_rfl]
  have h0 : cap ≠ k := by omega
  simp [Result.andThen, sliced, h0, add_at]

set_option maxRecDepth 100000 in
set_option maxHeartbeats 1000000 in
theorem growD_any (n : Nat) (h0 : 0 < n) (hn : n ≤ 1000) (W : World) :
    Calls Try.prog 126 #[.slice none 0 0, .int .i64 n] W fun e w' => ∃ g c, e = .returned (.slice (some ⟨g, 0, none⟩) 0 c) ∧ NewD W.heap.size w' (.slice (some ⟨g, 0, none⟩) 0 c) [] ∧ Below W.heap.size W w' := by
  have hn1 : ¬ ((n : Int) < 0) := by omega
  have hn2 : (0 : Int) < n := by omega
  have hn3 : (n : Int) ≤ 1000 := by omega
  go_enter Try.func126, Try.ntmps126
  go_wp2_with (at_builtin; refine wpList_appMade8 rfl (.tmp 20) (.tmp 21) 62 3 rfl Try.underlying62 Try.underlying3 rfl n rfl h0 (by omega) ?_)
  intro c w' hc hnew hbel
  have hsl := fun W' => cutD_h W.heap.size 0 n c 0 (Nat.zero_le _) hc (by omega) W'
  rw [show ((0 : Nat) : Int) = 0 from rfl] at hsl
  have HN := Lib.hid hnew
  have HB := Lib.hid hbel
  clear hnew hbel
  go_wp2
  go_ret
  exact ⟨_, _, rfl, HN.out, HB.out⟩

def catD (xs : Nat → List (Nat → Nat)) (i : Nat) : List (Nat → Nat) := ((List.range i).map xs).flatten
theorem catD_succ (xs : Nat → List (Nat → Nat)) (i : Nat) : catD xs (i + 1) = catD xs i ++ xs i := by
  unfold catD
  rw [List.range_succ]
  simp
theorem catD_le (xs : Nat → List (Nat → Nat)) {i j : Nat} (h : i ≤ j) : (catD xs i).length ≤ (catD xs j).length := by
  induction j with
  | zero => obtain rfl : i = 0 := by omega
            exact Nat.le_refl _
  | succ j ih =>
    rcases Nat.lt_or_ge i (j + 1) with h1 | h1
    · have := ih (by omega)
      rw [catD_succ, List.length_append]
      omega
    · obtain rfl : i = j + 1 := by omega
      exact Nat.le_refl _
theorem cell_ltD {w : World} {a : Addr} {v : Value} (h : w.cell? a = some v) : a.block < w.heap.size := by
  rcases Nat.lt_or_ge a.block w.heap.size with h1 | h1
  · exact h1
  · simp [World.cell?, Array.getElem?_eq_none h1] at h

set_option maxRecDepth 100000 in
set_option maxHeartbeats 1000000 in
theorem concatD_any (gb : Nat) (gd od cp : Nat → Nat) (xs : Nat → List (Nat → Nat)) (W : World) (hc : ∀ i, i < 2 → W.cell? ⟨gb, i, none⟩ = some (.slice (some ⟨gd i, od i, none⟩) (xs i).length (cp i)))
    (ht : ∀ i, i < 2 → DigA W (gd i) (od i) (cp i) (xs i)) (h0 : 0 < (catD xs 2).length) (hl : (catD xs 2).length ≤ 1000) :
    Calls Try.prog 79 #[.slice (some ⟨gb, 0, none⟩) 2 2] W (RowsOut (catD xs 2) W) := by
  have hgb := cell_ltD (hc 0 (by omega))
  have HC := Lib.hid hc
  have HT := Lib.hid ht
  have HLE := Lib.hid (fun i (h : i ≤ 2) => catD_le xs h)
  have HSU := Lib.hid (catD_succ xs)
  have HZ : Hid (catD xs 0 = []) := Lib.hid rfl
  clear hc ht
  obtain ⟨res, hres⟩ : ∃ res, catD xs 2 = res := ⟨_, rfl⟩
  have HRES := Lib.hid hres
  rw [hres] at h0 hl HLE ⊢
  have hli : (res.length : Int) ≤ 1000 := by omega
  obtain ⟨rl, hrl⟩ : ∃ rl, res.length = rl := ⟨_, rfl⟩
  rw [hrl] at h0 hl hli HLE
  have HRL := Lib.hid hrl
  clear hres hrl
  go_enter Try.func79, Try.ntmps79
  go_wp2
  go_loopg [3, 5, 11] 2 (fun q sz _ ix wr => ∃ i : Nat, q + i = 2 ∧ ix = .int .i64 i ∧ sz = .int .i64 (catD xs i).length ∧ W = wr)
  case atStart => exact ⟨0, by omega, rfl, by rw [HZ.out]; rfl, rfl⟩
  case round =>
    obtain ⟨i, hqi, rfl, rfl, rfl⟩ := hrel
    by_cases hlt : i < 2
    · have c1 := HC.out i hlt
      have hle := HLE.out (i + 1) (by omega)
      rw [HSU.out, List.length_append] at hle
      have hsum : ((catD xs (i + 1)).length : Int) = (catD xs i).length + (xs i).length := by rw [HSU.out, List.length_append]; simp
      have HSUM := Lib.hid hsum
      generalize (catD xs i).length = l1 at *
      generalize (xs i).length = l2 at *
      have hii : (i : Int) < 2 := by omega
      have hp : ¬ ((l1 : Int) + l2 < 0) := by omega
      have hl1 : (l1 : Int) ≤ 1000 := by omega
      have hl2 : (l2 : Int) ≤ 1000 := by omega
      clear hsum
      go_wp2
      go_roundg (2 - (i + 1))
      case measure => omega
      case rel => exact ⟨i + 1, by omega, by go_num, by rw [HSUM.out], rfl⟩
    · obtain rfl : i = 2 := by omega
      rw [HRES.out, HRL.out]
      go_wp2_with fail
      refine (growD_any rl h0 hl _).mono ?_
      rintro e w1 ⟨gn, cn, rfl, hn1, hb1⟩
      have HN1 := Lib.hid hn1
      have HB1 := Lib.hid hb1
      clear hn1 hb1
      go_wp2
      go_loopg [6, 8, 27] 2 (fun q nv _ ix wr => ∃ (i : Nat) (nn : Nat) (an : Option Addr) (kn : Nat), q + i = 2 ∧ ix = .int .i64 i ∧ nv = .slice an nn kn ∧ NewD W.heap.size wr nv (catD xs i) ∧ Below W.heap.size W wr)
      case atStart => exact ⟨0, _, _, _, by omega, rfl, rfl, by rw [HZ.out]; exact HN1.out, HB1.out⟩
      case round =>
        clear HN1 HB1
        obtain ⟨i, nn, an, kn, hqi, rfl, rfl, hn, hb⟩ := hrel
        have HN := Lib.hid hn
        have HB := Lib.hid hb
        clear hn hb
        by_cases hlt : i < 2
        · have c1 := (HB.out.cell (p := ⟨gb, i, none⟩) hgb).trans (HC.out i hlt)
          have HTI := Lib.hid ((HT.out i hlt).kept HB.out)
          have hle := HLE.out (i + 1) (by omega)
          rw [HSU.out, List.length_append] at hle
          have HS2 := Lib.hid (HSU.out i)
          generalize hci : catD xs i = C at *
          generalize hxi : xs i = X at *
          generalize cp i = ci at *
          generalize gd i = gi at *
          generalize od i = oi at *
          have hii : (i : Int) < 2 := by omega
          clear hci hxi
          go_wp2_with (at_builtin; refine wpList_app8A rfl (.tmp 31) (.tmp 32) 62 rfl Try.underlying62 W.heap.size W.heap.size (Nat.le_refl _) _ C X rfl HN.out gi oi ci rfl HTI.out HB.out.size HB.out (by omega) ?_)
          intro v6 w6 hn6 hk6 hb6 _
          rw [← HS2.out] at hn6
          have HN6 := Lib.hid hn6
          have HB6 := Lib.hid hb6
          obtain ⟨u6, k6, hv6⟩ : ∃ u6 k6, v6 = .slice u6 (catD xs (i + 1)).length k6 := by
            obtain ⟨a', c', e', -⟩ := hn6.digs
            exact ⟨a', c', e'⟩
          subst hv6
          clear hn6 hk6 hb6 HN HB c1
          go_wp2
          go_roundg (2 - (i + 1))
          case measure => omega
          case rel => exact ⟨i + 1, _, _, _, by omega, by go_num, rfl, HN6.out, HB6.out⟩
        · obtain rfl : i = 2 := by omega
          rw [HRES.out] at HN
          go_wp2
          go_ret
          exact ⟨_, rfl, HN.out, HB.out⟩
theorem concatD2_any (gb g1 o1 c1 g2 o2 c2 : Nat) (X Y : List (Nat → Nat)) (W : World) (h1 : W.cell? ⟨gb, 0, none⟩ = some (.slice (some ⟨g1, o1, none⟩) X.length c1)) (h2 : W.cell? ⟨gb, 1, none⟩ = some (.slice (some ⟨g2, o2, none⟩) Y.length c2))
    (t1 : DigA W g1 o1 c1 X) (t2 : DigA W g2 o2 c2 Y) (h0 : 0 < X.length + Y.length) (hl : X.length + Y.length ≤ 1000) :
    Calls Try.prog 79 #[.slice (some ⟨gb, 0, none⟩) 2 2] W (RowsOut (X ++ Y) W) := by
  have e : catD (fun i => if i = 0 then X else Y) 2 = X ++ Y := by simp [catD, List.range_succ]
  have := concatD_any gb (fun i => if i = 0 then g1 else g2) (fun i => if i = 0 then o1 else o2) (fun i => if i = 0 then c1 else c2) (fun i => if i = 0 then X else Y) W (fun i hi => by
    have : i = 0 ∨ i = 1 := by omega
    rcases this with rfl | rfl
    · exact h1
    · exact h2) (fun i hi => by
    have : i = 0 ∨ i = 1 := by omega
    rcases this with rfl | rfl
    · exact t1
    · exact t2) (by rw [e, List.length_append]; exact h0) (by rw [e, List.length_append]; exact hl)
  rwa [e] at this
end Go.Proofs.Ytnoepobbecobbaa
