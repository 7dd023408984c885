/- Plain facts on paths: the place of a bell, the places in a lead, the cycle of place bells. No program here. The cycle from a bell on, in the program. The place of a bell in a row, in the program: by bytes.IndexByte. A range over an iterator that keeps a row of its own between two rounds: a law for such a loop, in two parties' words. The iterator over the rows of a lead, in the program: its contract for every loop that keeps the rows. -/
import Derived.Test.YtpfnamiacagocaaMB
import Derived.Shelf.Bytes.IndexByte
import Derived.Lib.IndexLaws
import Derived.RangeFuncNested
import Derived.RangeFuncLeaves
import Derived.RangeFuncCalls
import Derived.WalkKit
import Derived.OwnWalkIn
import Derived.TacticsInMore
import Derived.Sort.LoopGhostIn
namespace Go.Proofs.Ytpfnamiacagocaa

/-- the place of bell b in a row -/
def plc (n : Nat) (f : Nat → Nat) (b : Nat) : Nat := invF n f (b - 1) - 48
theorem plc_spec {n : Nat} {f : Nat → Nat} (h : IsRow n f) {b : Nat} (h1 : 1 ≤ b) (hn : b ≤ n) : 1 ≤ plc n f b ∧ plc n f b ≤ n ∧ f (plc n f b - 1) = 48 + b := by
  obtain ⟨i, hi, e1, e2⟩ := inv_spec h (b - 1) (by omega)
  unfold plc
  rw [e2]
  refine ⟨by omega, by omega, ?_⟩
  rw [show 49 + i - 48 - 1 = i by omega, e1]
  omega
theorem plc_uniq {n : Nat} {f : Nat → Nat} (h : IsRow n f) {b i : Nat} (h1 : 1 ≤ b) (hn : b ≤ n) (hi : i < n) (e : f i = 48 + b) : plc n f b = i + 1 := by
  obtain ⟨p1, p2, p3⟩ := plc_spec h h1 hn
  have := h.inj (plc n f b - 1) i (by omega) hi (by rw [p3, e])
  omega
theorem inv_plc {n : Nat} {f : Nat → Nat} (h : IsRow n f) {j : Nat} (hj : j < n) : invF n f j = 48 + plc n f (j + 1) := by
  obtain ⟨i, hi, e1, e2⟩ := inv_spec h j hj
  have := plc_uniq h (show 1 ≤ j + 1 by omega) (by omega) hi (by omega)
  omega
theorem plc_rd {n : Nat} (h3 : 3 ≤ n) (h8 : n ≤ 8) {b : Nat} (h1 : 1 ≤ b) (hn : b ≤ n) : plc n (rdf n) b = b := by
  have := plc_uniq (isRow_rdf h3 h8) (i := b - 1) h1 hn (by omega) (by simp [rdf, show b - 1 < n by omega]; omega)
  omega

/-- the places of bell b in the rows of a lead and in what follows -/
def pathF (n : Nat) (cs : List (Nat → Nat)) (f : Nat → Nat) (b : Nat) : List Nat := (leadF n cs f ++ [endF n cs f]).map fun g => plc n g b
theorem pathF_len (n : Nat) (cs : List (Nat → Nat)) (f : Nat → Nat) (b : Nat) : (pathF n cs f b).length = cs.length + 1 := by simp [pathF, leadF_len]
theorem pathF_last (n : Nat) (cs : List (Nat → Nat)) (f : Nat → Nat) (b : Nat) : (pathF n cs f b).dropLast = (leadF n cs f).map fun g => plc n g b := by
  simp [pathF, List.map_append]
theorem pathF_mem {n : Nat} {cs : List (Nat → Nat)} {f : Nat → Nat} (hc : Rows n cs) (hf : IsRow n f) {b : Nat} (h1 : 1 ≤ b) (hn : b ≤ n) : ∀ x ∈ pathF n cs f b, 1 ≤ x ∧ x ≤ n := by
  intro x hx
  simp only [pathF, List.mem_map] at hx
  obtain ⟨g, hg, rfl⟩ := hx
  have hr : IsRow n g := by
    rcases List.mem_append.1 hg with h | h
    · exact rows_lead hc hf g h
    · rw [List.mem_singleton.1 h]; exact isRow_end hc hf
  have := plc_spec hr h1 hn
  exact ⟨this.1, this.2.1⟩

structure IsPer (n : Nat) (f : Nat → Nat) (i m : Nat) : Prop where
  pos : 1 ≤ m
  le : m ≤ n
  back : orb n f i m = i
  least : ∀ j, 1 ≤ j → j < m → orb n f i j ≠ i
theorem per_exists {n : Nat} {f : Nat → Nat} (h : IsRow n f) {i : Nat} (hi : i < n) : ∃ m, IsPer n f i m := by
  obtain ⟨m0, h1, h2, h3⟩ := orb_returns h hi
  obtain ⟨m, ⟨p1, p2⟩, p3⟩ := least_of (p := fun m => 1 ≤ m ∧ orb n f i m = i) ⟨m0, h1, h3⟩
  refine ⟨m, p1, ?_, p2, fun j hj hjm e => p3 j hjm ⟨hj, e⟩⟩
  by_cases hle : m ≤ m0
  · omega
  · exact absurd ⟨h1, h3⟩ (p3 m0 (by omega))
open Classical in
noncomputable def perN (n : Nat) (f : Nat → Nat) (i : Nat) : Nat := if h : ∃ m, IsPer n f i m then Classical.choose h else 1
theorem perN_spec {n : Nat} {f : Nat → Nat} (h : IsRow n f) {i : Nat} (hi : i < n) : IsPer n f i (perN n f i) := by
  unfold perN
  rw [dif_pos (per_exists h hi)]
  exact Classical.choose_spec (per_exists h hi)
/-- the first k bells of the cycle from place i on -/
def cycTo (n : Nat) (f : Nat → Nat) (i k : Nat) : List Int := (List.range k).map fun j => ((orb n f i j + 1 : Nat) : Int)
noncomputable def cyc (n : Nat) (f : Nat → Nat) (i : Nat) : List Int := cycTo n f i (perN n f i)
theorem cycTo_len (n : Nat) (f : Nat → Nat) (i k : Nat) : (cycTo n f i k).length = k := by simp [cycTo]
theorem cycTo_succ (n : Nat) (f : Nat → Nat) (i k : Nat) : cycTo n f i (k + 1) = cycTo n f i k ++ [((orb n f i k + 1 : Nat) : Int)] := by simp [cycTo, List.range_succ]
end Go.Proofs.Ytpfnamiacagocaa
namespace Go.Proofs.Ytpfnamiacagocaa
open Go.RowKit
set_option linter.unusedSimpArgs false
set_option linter.unusedVariables false

/-- a new slice of numbers: its blocks lie from B on -/
def NewInts (B : Nat) (W : World) (v : Value) (xs : List Int) : Prop := Own W 3 v (ints xs) ∧ ∀ g, v.ownBlock = some g → B ≤ g
def Cycle (n : Nat) (f : Nat → Nat) (i : Nat) (w : World) (e : Ending) (w' : World) : Prop := ∃ v, e = .returned v ∧ NewInts w.heap.size w' v (cyc n f i) ∧ Below w.heap.size w w'

set_option maxRecDepth 100000 in
set_option maxHeartbeats 1000000 in
theorem cycleFrom_any (n : Nat) (f : Nat → Nat) (hf : IsRow n f) (i : Nat) (hi : i < n) (w : World) :
    Calls Try.prog 117 #[.agg (dig8 f), .int .i64 ((i : Int) + 1)] w (Cycle n f i w) := by
  have h8 := hf.eight
  have hp := perN_spec hf hi
  obtain ⟨i0, hi0, hz0, hz1, hz2⟩ := info_parts infoInt
  have HF := Lib.hid hf
  have HP := Lib.hid hp
  have I0 := Lib.hid hi0
  have Z0 := Lib.hid hz0
  have Z1 := Lib.hid hz1
  have Z2 := Lib.hid hz2
  have hlo := hf.lo i hi
  have hhi := hf.hi i hi
  have hlo' : (49 : Int) ≤ f i := by omega
  have hhi' : (f i : Int) ≤ 56 := by omega
  clear hf hp hi0 hz0 hz1 hz2
  have hi8 : i < 8 := by omega
  have c0' := ((RowAt.new w 68 (dig8 f)).push (.cells #[.int .i64 ((i : Int) + 1)] 3)).cell i (dig8_get f i hi8)
  go_enter Try.func117, Try.ntmps117
  go_wp2
  rw [show ((f i : Int) - 48) = ((orb n f i 1 : Nat) : Int) + 1 from by
    have e1 : orb n f i 1 = f i - 49 := by
      have := orb_succ HF.out hi 0
      rw [orb_zero f hi] at this
      exact this
    rw [e1]; omega]
  clear c0'
  generalize hper : perN n f i = m at HP
  go_loopg [5, 6] m (fun q v x wr => ∃ (k : Nat), 1 ≤ k ∧ k ≤ m ∧ q + k = m + 1 ∧ x = .int .i64 ((orb n f i k : Nat) + 1) ∧ NewInts (w.heap.size + 1) wr v (cycTo n f i k) ∧ RowAt wr w.heap.size 68 (dig8 f) ∧ Below w.heap.size w wr)
  case atStart =>
    refine ⟨1, Nat.le_refl _, HP.out.pos, by omega, rfl, ⟨?_, fun g hg => ?_⟩, (RowAt.new w 68 (dig8 f)).push _, ((Below.refl _ w).alloc (Nat.le_refl _) _).alloc (by simp) _⟩
    · have := Own.lit (w.alloc (.cells (dig8 f) 68)) 3 [.int .i64 ((i : Int) + 1)] (by simp)
      have e : ints (cycTo n f i 1) = [.int .i64 ((i : Int) + 1)] := by simp [ints, cycTo, orb_zero f hi]
      rw [e]
      simpa using this
    · simp [Value.ownBlock] at hg; omega
  case round =>
    obtain ⟨k, hk1, hkm, hq, rfl, hnew, hrow, hbel⟩ := hrel
    have HQ := Lib.hid hq
    have HNEW := Lib.hid hnew
    have HROW := Lib.hid hrow
    have HB := Lib.hid hbel
    have hob := orb_lt HF.out hi k
    clear hq hnew hrow hbel
    by_cases hlt : k < m
    · have hne0 := HP.out.least k hk1 hlt
      have hsucc := orb_succ HF.out hi k
      have hcs := cycTo_succ n f i k
      have hcl := cycTo_len n f i k
      have hml := HP.out.le
      generalize orb n f i k = ob at *
      have hne : (((ob : Nat) : Int) + 1 != (i : Int) + 1) = true := by simp; omega
      have hflo := HF.out.lo ob hob
      have hfhi := HF.out.hi ob hob
      have hflo' : (49 : Int) ≤ f ob := by omega
      have hfhi' : (f ob : Int) ≤ 56 := by omega
      have HS := Lib.hid hsucc
      have HCS := Lib.hid hcs
      have HCL := Lib.hid hcl
      clear hsucc hcs hne0 hcl
      have hob8 : ob < 8 := by omega
      have hlen : (ints (cycTo n f i k)).length = k := by rw [ints_len, HCL.out]
      have HLEN := Lib.hid hlen
      clear hlen
      go_wp2_with (at_builtin; refine wpList_app rfl (.tmp 24) (.tmp 26) 39 rfl 3 i0 (.int .i64 0) 8 Try.underlying39 I0.out Z0.out Z1.out Z2.out rfl _ _ rfl (HNEW.out.1.alloc _) ⟨wr.heap.size, 0, none⟩ 1 1 [.int .i64 (((ob : Nat) : Int) + 1)] rfl rfl ?c1 ?c2 ?c3 ?c4 ?_)
      case c1 =>
        intro j u hj
        have : j = 0 := by
          have := (List.getElem?_eq_some_iff.1 hj).1
          simpa using this
        subst this
        simp at hj
        subst hj
        simp [Addr.add]
      case c2 => intro u hu; simp at hu; subst hu; rfl
      case c3 => rw [HLEN.out]; omega
      case c4 => rw [HLEN.out]; unfold maxLen; omega
      intro v' w' hown' hgrow hfresh _
      have hne5 : ∀ b, u5.ownBlock = some b → w.heap.size + 1 ≤ b := HNEW.out.2
      have hnew' : NewInts (w.heap.size + 1) w' v' (cycTo n f i (k + 1)) := by
        refine ⟨by rw [HCS.out]; simpa [ints] using hown', fun b hb => ?_⟩
        have hsz := HB.out.size
        have hrl := HROW.out.lt
        rcases hfresh b hb with h | h
        · exact hne5 b h
        · simp at h; omega
      have hrow' : RowAt w' w.heap.size 68 (dig8 f) := by
        refine (hgrow.block w.heap.size (HROW.out.push _).lt (fun e => ?_)).trans (HROW.out.push _)
        have := hne5 w.heap.size e.symm
        omega
      have hbel' : Below w.heap.size w w' := (HB.out.alloc HB.out.size _).grown hgrow (by have := HB.out.size; simp; omega) (fun b hb => by have := hne5 b hb; omega)
      have HNEW' := Lib.hid hnew'
      have HROW' := Lib.hid hrow'
      have HB' := Lib.hid hbel'
      have c1 := hrow'.cell ob (dig8_get f ob hob8)
      clear hown' hgrow hfresh hne5 hnew' hrow' hbel'
      go_wp2
      go_roundg (m + 1 - (k + 1))
      case measure => have := HQ.out; omega
      case rel => exact ⟨k + 1, by omega, by omega, by omega, by rw [HS.out]; congr 1; omega, HNEW'.out, HROW'.out, HB'.out⟩
    · obtain rfl : k = m := by omega
      have hback := HP.out.back
      have hne : (((orb n f i k : Nat) : Int) + 1 != (i : Int) + 1) = false := by simp [hback]
      have HBK := Lib.hid hback
      have HPER := Lib.hid hper
      clear hback hper
      go_wp2
      go_ret
      exact ⟨u5, rfl, by unfold cyc; rw [HPER.out]; exact ⟨HNEW.out.1, fun b hb => by have := HNEW.out.2 b hb; omega⟩, HB.out⟩
end Go.Proofs.Ytpfnamiacagocaa
namespace Go.Proofs.Ytpfnamiacagocaa
open Go.Shelf Go.RowKit
set_option linter.unusedSimpArgs false
set_option linter.unusedVariables false

def lays187_ren : Go.Shelf.Ren := ⟨fun | 187 => 122 | 255 => 127 | n => n, fun | 3 => 3 | 5 => 5 | 37 => 22 | n => n, fun | n => n⟩
theorem lays187 : Lays.n187 Try.prog lays187_ren := {
  mixed := by kernel_rfl
  f187 := Try.func122.trans (congrArg some (by kernel_rfl))
  f255 := Try.func127.trans (congrArg some (by kernel_rfl))
  t3 := Try.underlying3
  a3 := Try.isAgg3
  z3 := Try.sizeOf3
  v3 := Try.zeroValue3
  t5 := Try.underlying5
  a5 := Try.isAgg5
  z5 := Try.sizeOf5
  v5 := Try.zeroValue5
  t37 := Try.underlying22
  a37 := Try.isAgg22
  z37 := Try.sizeOf22
  v37 := Try.zeroValue22 }

/-- a row's eight numbers -/
def nums8 (f : Nat → Nat) : List Int := (List.range 8).map fun i => (f i : Int)
theorem nums8_get (f : Nat → Nat) (i : Nat) (h : i < 8) : (nums8 f).getD i 0 = (f i : Int) := by simp [nums8, List.getD_eq_getElem?_getD, h]
theorem bytes8_get (f : Nat → Nat) (i : Nat) (h : i < 8) : (Lib.bytesOf (nums8 f))[i]? = some (UInt8.ofNat (f i)) := by simp [Lib.bytesOf, nums8, h]
theorem indexByte_plc {n : Nat} {f : Nat → Nat} (h : IsRow n f) {b : Nat} (h1 : 1 ≤ b) (hn : b ≤ n) : Lib.indexByte (Lib.bytesOf (nums8 f)) (UInt8.ofNat (48 + b)) = (plc n f b : Int) - 1 := by
  have h8 := h.eight
  obtain ⟨p1, p2, p3⟩ := plc_spec h h1 hn
  have hge := Lib.indexByte_ge (Lib.bytesOf (nums8 f)) (UInt8.ofNat (48 + b))
  generalize hr : Lib.indexByte (Lib.bytesOf (nums8 f)) (UInt8.ofNat (48 + b)) = r at *
  by_cases hneg : r = -1
  · subst hneg
    have := Lib.indexByte_none hr (plc n f b - 1)
    rw [bytes8_get f _ (by omega), p3] at this
    exact absurd rfl this
  · obtain ⟨o, rfl⟩ := Int.eq_ofNat_of_zero_le (show 0 ≤ r by omega)
    obtain ⟨e1, -⟩ := Lib.indexByte_some hr
    have ho : o < 8 := by
      have := (List.getElem?_eq_some_iff.1 e1).1
      simpa [Lib.bytesOf, nums8] using this
    rw [bytes8_get f o ho] at e1
    injection e1 with e1
    have hfo : f o < 256 := by
      by_cases hon : o < n
      · have := h.hi o hon; omega
      · rw [h.zero o (by omega)]; omega
    have e2 : f o = 48 + b := by
      have := congrArg UInt8.toNat e1
      simp at this
      omega
    have hon : o < n := by
      by_cases hon : o < n
      · exact hon
      · rw [h.zero o (by omega)] at e2; omega
    have := plc_uniq h h1 hn hon e2
    show (o : Int) = _
    omega

theorem indexByte8_any (n : Nat) (f : Nat → Nat) (hf : IsRow n f) (b : Nat) (h1 : 1 ≤ b) (hn : b ≤ n) (c : Nat) (w : World) (g cap : Nat) (h : ∀ i, i < 8 → w.cell? ⟨g, i, none⟩ = some (.int .u8 (f i))) (hc : c = 48 + b) :
    Calls Try.prog 122 #[.slice (some ⟨g, 0, none⟩) 8 cap, .int .u8 c] w fun e w' => e = .returned (.int .i64 ((plc n f b : Int) - 1)) ∧ w' = w := by
  subst hc
  have := Any.bytes_IndexByte lays187 g 0 8 cap (nums8 f) ((48 + b : Nat) : Int) w (by simp [nums8]) (fun i hi => by rw [nums8_get f i hi, Nat.zero_add]; exact h i hi)
  rw [show (((48 + b : Nat) : Int)).toNat.toUInt8 = UInt8.ofNat (48 + b) from rfl, indexByte_plc hf h1 hn] at this
  exact this

set_option maxRecDepth 100000 in
set_option maxHeartbeats 1000000 in
theorem placeOf_any (n : Nat) (f : Nat → Nat) (hf : IsRow n f) (b : Nat) (h1 : 1 ≤ b) (hn : b ≤ n) (w : World) :
    Calls Try.prog 100 #[.agg (dig8 f), .int .i64 b] w fun e w' => e = .returned (.int .i64 (plc n f b)) ∧ Below w.heap.size w w' := by
  have h8 := hf.eight
  obtain ⟨p1, p2, -⟩ := plc_spec hf h1 hn
  have HR := Lib.hid (RowAt.new w 68 (dig8 f))
  have HB := Lib.hid ((Below.refl _ w).alloc (Nat.le_refl _) (.cells (dig8 f) 68))
  have HI := Lib.hid (fun c w g cap h hc => indexByte8_any n f hf b h1 hn c w g cap h hc)
  have hp : IntKind.i64.wrap ((plc n f b : Int) - 1 + 1) = (plc n f b : Int) := by rw [Int.sub_add_cancel]; exact Go.IntWalk.i64_in _ ⟨by omega, by omega⟩
  generalize plc n f b = p at *
  have hb8 : (b : Int) ≤ 8 := by omega
  have hb1 : (1 : Int) ≤ b := by omega
  have hw : IntKind.u8.wrap (48 + (b : Int)) = ((48 + b : Nat) : Int) := by
    rw [show (48 : Int) + b = ((48 + b : Nat) : Int) by omega]
    simp [IntKind.wrap, IntKind.bits]
    omega
  clear hf
  go_enter Try.func100, Try.ntmps100
  go_wp2_with (first | (go_at_call 122; refine (HI.out _ _ _ _ (fun i hi => HR.out.cell i (dig8_get f i hi)) rfl).mono ?_; rintro e w1 ⟨rfl, rfl⟩) | fail)
  go_ret
  exact ⟨rfl, HB.out⟩
end Go.Proofs.Ytpfnamiacagocaa
namespace Go.Proofs.Ytpfnamiacagocaa
open Go.RowKit
set_option linter.unusedSimpArgs false
set_option linter.unusedVariables false

/-- what the iterator leaves alone: the blocks below B, and whatever is no row's block -/
structure OffT (B : Nat) (A C : World) : Prop where
  below : Below B A C
  same : ∀ (k : Nat) (o : Obj), A.heap[k]? = some o → (∀ cs fz, o ≠ .cells cs 68 fz) → C.heap[k]? = some o
/-- what the loop's own words abide: blocks of cells of another type than a row's stand, and the blocks below B -/
structure OffC (B : Nat) (A C : World) : Prop where
  below : Below B A C
  same : ∀ (k : Nat) (cs : Array Value) (t : TypeId) (fz : Nat × Nat), t ≠ 68 → A.heap[k]? = some (.cells cs t fz) → C.heap[k]? = some (.cells cs t fz)
/-- what a round keeps for the iterator: the rows -/
structure KeepT (A C : World) : Prop where
  size : A.heap.size ≤ C.heap.size
  row : ∀ (k : Nat) (cs : Array Value), A.heap[k]? = some (.cells cs 68) → C.heap[k]? = some (.cells cs 68)
theorem KeepT.trans {A B C : World} (h : KeepT A B) (k : KeepT B C) : KeepT A C := ⟨Nat.le_trans h.size k.size, fun j cs hj => k.row j cs (h.row j cs hj)⟩
theorem OffT.offC {B B' : Nat} {A C : World} (h : OffT B A C) (hb : B' ≤ B) : OffC B' A C := ⟨h.below.mono hb, fun k cs t fz ht hk => h.same k _ hk (fun cs' fz' e => by cases e; exact ht rfl)⟩
theorem OffT.of_below {A C : World} (h : Below A.heap.size A C) (B : Nat) (hB : B ≤ A.heap.size) : OffT B A C :=
  ⟨h.mono hB, fun k o hk _ => (h.block k (Array.getElem?_eq_some_iff.1 hk).1).trans hk⟩
theorem OffC.putObj {B : Nat} {A : World} {l : Nat} {o o' : Obj} (hB : B ≤ l) (hl : A.heap[l]? = some o) (ho : o.isCells = false) : OffC B A (A.putObj l o') := by
  refine ⟨(Below.refl B A).grown (grownBy_putObj' A l o') (by have := (Array.getElem?_eq_some_iff.1 hl).1; omega) (fun k e => by cases e; omega), fun k cs t fz _ hk => ?_⟩
  by_cases e : k = l
  · subst e; rw [hl] at hk; cases hk; cases ho
  · exact (World.putObj_heap_other e).trans hk
theorem KeepT.putObj {A : World} {l : Nat} {o o' : Obj} (hl : A.heap[l]? = some o) (ho : o.isCells = false) : KeepT A (A.putObj l o') := by
  refine ⟨by simp, fun k cs hk => ?_⟩
  by_cases e : k = l
  · subst e; rw [hl] at hk; cases hk; cases ho
  · exact (World.putObj_heap_other e).trans hk
theorem KeepT.of_below {A C : World} (h : Below A.heap.size A C) : KeepT A C := ⟨h.size, fun k cs hk => (h.block k (Array.getElem?_eq_some_iff.1 hk).1).trans hk⟩

/-- how a round's body ends -/
def roundEnd {α : Type} (I : List α → World → Prop) (s : List α) (A : World) : Exit → Act → World → Prop
  | .normal, _, C => I s C ∧ KeepT A C ∧ KeepsOthers A C
  | _, _, _ => False

theorem rangeT {α : Type} {m : Nat} (N : Nat) {P : Program} {g : Operand} {p : Tmp} {assign body : Code} {Q : Exit → Act → World → Prop} {a : Act} {w : World} {gf : Nat} {lb : Array Value}
    (hg : a.eval g = .func (.func gf) #[] lb) (eg : ∀ args w, (callFunc gf args).run P w = .ok (.enter gf args) w)
    (enc : α → Value) (ok : α → Prop) (xs : List α) (I : List α → World → Prop)
    (hI : ∀ s A C, I s A → OffC w.heap.size A C → I s C) (h0 : I [] w)
    (hseq : ∀ (l : Nat) (J : List α → World → Prop) (W : World), Below w.heap.size w W → (∀ s A C, J s A → OffT W.heap.size A C → J s C) →
      (∀ pre x A, ok x → pre.length ≤ N → J pre A → YieldAt Fence.wide m P l #[enc x] A fun e C => e = .returned (.bool true) ∧ J (pre ++ [x]) C ∧ KeepT A C) → J [] W →
      CallsIn Fence.wide (m + 1) P gf (#[.func (.yield l) #[] #[]] ++ lb) W fun e C => (∃ v, e = .returned v) ∧ J xs C)
    (a₁ : α → Nat → Act) (o₁ : α → Obj)
    (hassign : ∀ (l : Nat) (x : α) (A : World) (K : Act → World → Prop), K (a₁ x A.heap.size) (A.alloc (o₁ x)) →
      assign.wpIn (Fence.wide.inRound l) m P (Exit.then K (fun _ _ _ => False)) { tmps := a.tmps.setIfInBounds p (enc x), defers := [] } A)
    (hbody : ∀ (l : Nat) (pre : List α) (x : α) (k : Nat) (A : World), ok x → pre.length ≤ N → I pre A → w.heap.size ≤ k → A.heap[k]? = some (o₁ x) → body.wpIn (Fence.wide.inRound l) m P (roundEnd I (pre ++ [x]) A) (a₁ x k) A)
    (hdone : ∀ (D : Nat) (A : World), w.heap.size ≤ D → I xs A → A.heap[D]? = some (.deferred (some [])) → Q .normal { a with defers := { target := .collected D, args := #[] } :: a.defers } A) :
    (Code.rangeFunc g #[p] assign body).wpIn Fence.wide (m + 2) P Q a w := by
  refine wpIn_rangeFunc fun fn hfn => ?_
  obtain ⟨L, hL⟩ : ∃ L : LoopState → Option Code → Loop, L = fun st pe => { state := st, pending := pe, fn, tmps := a.tmps, params := #[p], assign, body, defers := w.heap.size } := ⟨_, rfl⟩
  obtain ⟨W, hW⟩ : ∃ W, (w.alloc (.deferred (some []))).alloc (.loop (L .ready none)) = W := ⟨_, rfl⟩
  have hl : W.heap[w.heap.size + 1]? = some (.loop (L .ready none)) := by
    rw [← hW]
    have := World.alloc_heap_new (w.alloc (.deferred (some []))) (.loop (L .ready none))
    rwa [World.size_alloc] at this
  have hk : W.heap[w.heap.size]? = some (.deferred (some [])) := by
    rw [← hW]
    exact (Below.heap_alloc _ _ _ (by simp)).trans (World.alloc_heap_new w _)
  have hb : Below w.heap.size w W := by
    rw [← hW]
    exact ((Below.refl _ w).alloc (Nat.le_refl _) _).alloc (by simp) _
  have hiW : I [] W := hI [] w W h0 ((OffT.of_below hb _ (Nat.le_refl _)).offC (Nat.le_refl _))
  have hsz := hb.size
  refine ⟨w.heap.size + 1, [{ target := .collected w.heap.size, args := #[] }], W, { target := .fn (.func gf) lb, args := #[.func (.yield (w.heap.size + 1)) #[] #[]] }, W, gf,
    #[.func (.yield (w.heap.size + 1)) #[] #[]] ++ lb, W, ?_, ?_, fun _ _ => trivial, ?_, (fun h => by cases h), ?_⟩
  · rw [← hW, hL]; exact run_enterLoop_outer _ _ _ _ _
  · simp only [resolve, hg]
    simp [go_sem]
  · simp [invoke, go_sem, eg]
  · refine (hseq (w.heap.size + 1) (fun s A => I s A ∧ A.heap[w.heap.size + 1]? = some (.loop (L .ready none)) ∧ A.heap[w.heap.size]? = some (.deferred (some []))) W hb ?_ ?_ ⟨hiW, hl, hk⟩).mono ?_
    · rintro s A C ⟨h1, h2, h3⟩ hoff
      exact ⟨hI s A C h1 (hoff.offC hsz), hoff.same _ _ h2 (fun _ _ e => by cases e), hoff.same _ _ h3 (fun _ _ e => by cases e)⟩
    · rintro pre x A hx hN ⟨h1, h2, h3⟩
      have hlt : w.heap.size + 1 < A.heap.size := (Array.getElem?_eq_some_iff.1 h2).1
      have hy := run_yield (P := P) (args := #[enc x]) h2 (by rw [hL]; rfl)
      rw [hL] at hy
      refine ⟨fn, _, assign, body, hy, roundIn_of_wpIn hfn ?_⟩
      obtain ⟨A1, hA1⟩ : ∃ A1, A.alloc (o₁ x) = A1 := ⟨_, rfl⟩
      have hbA : Below A.heap.size A A1 := by rw [← hA1]; exact (Below.refl _ A).alloc (Nat.le_refl _) _
      have g2 : A1.heap[w.heap.size + 1]? = some (.loop (L .ready none)) := (hbA.block _ hlt).trans h2
      have g3 : A1.heap[w.heap.size]? = some (.deferred (some [])) := (hbA.block _ (by omega)).trans h3
      have g4 : A1.heap[A.heap.size]? = some (o₁ x) := by rw [← hA1]; exact World.alloc_heap_new A _
      have g1 : I pre A1 := hI _ _ _ h1 ((OffT.of_below hbA _ (Nat.le_refl _)).offC (by omega))
      have hlt1 : w.heap.size + 1 < A1.heap.size := (Array.getElem?_eq_some_iff.1 g2).1
      have htm : ((#[p].zip #[enc x]).foldl (fun t (q : Tmp × Value) => t.setIfInBounds q.1 q.2) a.tmps) = a.tmps.setIfInBounds p (enc x) := by simp
      have hgo := hassign (w.heap.size + 1) x A (fun a₁ w₁ => ∃ w₂, (Instr.beginRound (w.heap.size + 1)).run P w₁ = .ok () w₂ ∧ body.wpIn (Fence.wide.inRound (w.heap.size + 1)) m P (roundPost P (w.heap.size + 1) fun e C => e = .returned (.bool true) ∧ (I (pre ++ [x]) C ∧ C.heap[w.heap.size + 1]? = some (.loop (L .ready none)) ∧ C.heap[w.heap.size]? = some (.deferred (some []))) ∧ KeepT A C) a₁ w₂) ?_
      · rw [← htm] at hgo; exact hgo
      rw [hA1]
      refine ⟨_, run_beginRound g2 (by rw [hL]), ?_⟩
      obtain ⟨A2, hA2⟩ : ∃ A2, A1.putObj (w.heap.size + 1) (.loop { L .ready none with state := .busy }) = A2 := ⟨_, rfl⟩
      rw [hA2]
      have k2 : A2.heap[w.heap.size + 1]? = some (.loop { L .ready none with state := .busy }) := by rw [← hA2]; exact World.putObj_heap_same hlt1
      have k3 : A2.heap[w.heap.size]? = some (.deferred (some [])) := by rw [← hA2]; exact (World.putObj_heap_other (by omega)).trans g3
      have k4 : A2.heap[A.heap.size]? = some (o₁ x) := by rw [← hA2]; exact (World.putObj_heap_other (by omega)).trans g4
      have k1 : I pre A2 := by rw [← hA2]; exact hI _ _ _ g1 (OffC.putObj (by omega) g2 rfl)
      have kk : KeepT A A2 := (KeepT.of_below hbA).trans (by rw [← hA2]; exact KeepT.putObj g2 rfl)
      refine wpIn_mono (hbody _ pre x _ A2 hx hN k1 (by omega) k4) ?_
      rintro e a3 C hp
      cases e with
      | normal =>
        obtain ⟨c1, c2, c3⟩ := hp
        have d2 := c3.same _ _ k2 rfl
        have d3 := c3.same _ _ k3 rfl
        have hr := run_endRound (P := P) none d2
        rw [hL] at hr d2
        refine ⟨_, _, hr, rfl, ⟨hI _ _ _ c1 (OffC.putObj (by omega) d2 rfl), ?_, (World.putObj_heap_other (by omega)).trans d3⟩, (kk.trans c2).trans (KeepT.putObj d2 rfl)⟩
        rw [hL]
        exact World.putObj_heap_same (Array.getElem?_eq_some_iff.1 d2).1
      | ret => exact hp.elim
      | exit id => exact hp.elim
      | goto t => exact hp.elim
      | panic c => exact hp.elim
      | outgrown => exact hp.elim
    · rintro e A ⟨⟨v, rfl⟩, h1, h2, h3⟩
      have hr := run_endLoop (P := P) h2 (by rw [hL]; simp)
      refine ⟨none, _, by rw [hr, hL], ?_⟩
      refine hdone _ _ (Nat.le_refl _) (hI _ _ _ h1 (OffC.putObj (by omega) h2 rfl)) ((World.putObj_heap_other (by omega)).trans h3)
end Go.Proofs.Ytpfnamiacagocaa
namespace Go.Proofs.Ytpfnamiacagocaa
open Go.RowKit
set_option linter.unusedSimpArgs false
set_option linter.unusedVariables false
attribute [local go_sem] Oper.semAt_some

section
variable {F : Fence} {m : Nat} {P : Program} {ops : Array Oper} {rest : List Oper} {o : Oper} {a : Act} {w : World} {Q : Exit → Act → World → Prop}
/-- a row is read, within a fence -/
theorem wpListIn_load_row (hgd : o.guard = none) (ty : TypeId) (x : Operand) (ho : o.op = .load ty x) (g : Nat) (hx : a.eval x = .pointer (some ⟨g, 0, none⟩))
    (t : TypeId) (cs : Array Value) (fr : Nat × Nat) (d : TypeDesc) (hg : w.heap[g]? = some (.cells cs t fr)) (hu : P.underlying ty = some d)
    (hd : (match d with | .struct _ | .array _ _ => true | _ => false) = true) (hi : (P.info? ty).map (·.size) = some cs.size)
    (h : wpListIn F m P ops Q rest (a.put o.dst (.agg cs)) w) : wpListIn F m P ops Q (o :: rest) a w := by
  refine wpListIn_plain hgd fun _ hK => ⟨fun f hf => ?_, ?_⟩
  · simp [Oper.about, ho] at hf
  · rw [Oper.semAt_eq _ _ _ (fun c => by rw [ho]; simp)]
    unfold execOp
    simp only [ho, hx, Instr.loadAt, Instr.sureAddr, Sem.run_bind, Sem.run_pure, Result.andThen_ok, run_loadVar_row w g t ty cs fr d hg hu hd hi]
    exact hK _ _ h
theorem wpListIn_load_mid (hgd : o.guard = none) (ty : TypeId) (x : Operand) (ho : o.op = .load ty x) (b q : Nat) (hx : a.eval x = .pointer (some ⟨b, q, none⟩))
    (cs : List Value) (d : TypeDesc) (hc : w.rangeAt b q cs) (hu : P.underlying ty = some d) (hd : d.isRow = true) (hi : (P.info? ty).map (·.size) = some cs.length)
    (h : wpListIn F m P ops Q rest (a.put o.dst (.agg cs.toArray)) w) : wpListIn F m P ops Q (o :: rest) a w := by
  refine wpListIn_plain hgd fun _ hK => ⟨fun f hf => ?_, ?_⟩
  · simp [Oper.about, ho] at hf
  · rw [Oper.semAt_eq _ _ _ (fun c => by rw [ho]; simp)]
    unfold execOp
    simp only [ho, hx, Instr.loadAt, Instr.sureAddr, Sem.run_bind, Sem.run_pure, Result.andThen_ok, run_loadVar_mid w b q ty cs d hc hu hd hi]
    exact hK _ _ h
theorem wpListIn_store_row (hgd : o.guard = none) (ty : TypeId) (x y : Operand) (ho : o.op = .store ty x y) (g : Nat) (cells : Array Value)
    (hx : a.eval x = .pointer (some ⟨g, 0, none⟩)) (hy : a.eval y = .agg cells) (t : TypeId) (old : Array Value) (hg : w.heap[g]? = some (.cells old t (0, 0)))
    (hi : (P.info? ty).map (·.size) = some cells.size) (hold : old.size = cells.size) (h1 : cells.all (·.oneCell') = true)
    (h : wpListIn F m P ops Q rest (a.put o.dst undef) (w.setRow g cells)) : wpListIn F m P ops Q (o :: rest) a w := by
  refine wpListIn_plain hgd fun _ hK => ⟨fun f hf => ?_, ?_⟩
  · simp [Oper.about, ho] at hf
  · rw [Oper.semAt_eq _ _ _ (fun c => by rw [ho]; simp)]
    unfold execOp
    simp only [ho, hx, hy, Instr.storeAt, Instr.sureAddr, Sem.run_bind, Sem.run_pure, Result.andThen_ok, run_storeVar_row w g t ty old cells hg hi hold h1]
    exact hK _ _ h
end

theorem wpListIn_load8 {F : Fence} {m : Nat} {ops : Array Oper} {rest : List Oper} {o : Oper} {a : Act} {w : World} {Q : Exit → Act → World → Prop} (hgd : o.guard = none) (x : Operand) (ho : o.op = .load 68 x)
    (g p : Nat) (hx : a.eval x = .pointer (some ⟨g, p, none⟩)) (f : Nat → Nat) (hc : w.rangeAt g p (cells8 f))
    (h : wpListIn F m Try.prog ops Q rest (a.put o.dst (.agg (dig8 f))) w) : wpListIn F m Try.prog ops Q (o :: rest) a w := by
  refine wpListIn_load_mid hgd 68 x ho g p hx (cells8 f) _ hc Try.underlying68 rfl sizeDigs ?_
  rw [cells8_arr]
  exact h

theorem NewD.keepT {B : Nat} {W W' : World} {v : Value} {fs : List (Nat → Nat)} (h : NewD B W v fs) (hk : KeepT W W') : NewD B W' v fs := by
  obtain ⟨h1, h2⟩ := h
  refine ⟨h1, ?_⟩
  rcases h2 with h0 | ⟨g, cap, cur, rfl, hbg, hg, hr⟩
  · exact .inl h0
  · exact .inr ⟨g, cap, cur, rfl, hbg, hk.row _ _ hg, hr⟩
theorem OffT.setRow {B b : Nat} {A : World} {cs : Array Value} (h : RowAt A b 68 cs) (hB : B ≤ b) (new : Array Value) : OffT B A (A.setRow b new) := by
  refine ⟨below_setRow (Below.refl _ _) hB _, fun k o hk hne => ?_⟩
  by_cases e : k = b
  · subst e
    rw [show A.heap[k]? = _ from h] at hk
    cases hk
    exact absurd rfl (hne _ _)
  · exact (setRow_other A b k new e).trans hk
theorem OffT.trans {B : Nat} {A C D : World} (h : OffT B A C) (k : OffT B C D) : OffT B A D := ⟨h.below.trans k.below, fun j o hj hne => k.same j o (h.same j o hj hne) hne⟩

set_option maxRecDepth 100000 in
set_option maxHeartbeats 1000000 in
theorem visited_any (u : Value) (f : Nat → Nat) (a : Option Addr) (m c : Nat) (hu : u = .slice a m c) (w : World) :
    Calls Try.prog 99 #[.agg (leadV u f)] w fun e w' => e = .returned (.func (.func 121) #[] #[.pointer (some ⟨w.heap.size, 0, none⟩)]) ∧ w' = w.alloc (.cells (leadV u f) 70) := by
  subst hu
  simp only [leadV]
  go_enter Try.func99, Try.ntmps99
  go_wp2
  go_ret
  exact ⟨rfl, rfl⟩

set_option maxRecDepth 100000 in
set_option maxHeartbeats 1000000 in
theorem visited1_in (l mm : Nat) (n : Nat) (u : Value) (cs : List (Nat → Nat)) (f : Nat → Nat) (hf : IsRow n f) (hc : Rows n cs) (hl : cs.length ≤ 40) (Bl : Nat)
    (J : List (Nat → Nat) → World → Prop) (W : World) (hJ : ∀ s A C, J s A → OffT W.heap.size A C → J s C)
    (hY : ∀ pre x A, IsRow n x → pre.length ≤ 40 → J pre A → YieldAt Fence.wide mm Try.prog l #[.agg (dig8 x)] A fun e C => e = .returned (.bool true) ∧ J (pre ++ [x]) C ∧ KeepT A C)
    (hbox : RowAt W Bl 70 (leadV u f)) (hn : NewD 0 W u cs) (h0 : J [] W) :
    CallsIn Fence.wide (mm + 1) Try.prog 121 #[.func (.yield l) #[] #[], .pointer (some ⟨Bl, 0, none⟩)] W fun e C => (∃ v, e = .returned v) ∧ J (leadF n cs f ++ [endF n cs f]) C := by
  have h1 : 1 ≤ mm + 1 := by omega
  obtain ⟨m, hm⟩ : ∃ m, cs.length = m := ⟨_, rfl⟩
  obtain ⟨a, cap, rfl, hcap, ha⟩ := hn.view hm
  have hl' : (m : Int) ≤ 40 := by omega
  have hlt0 : ∀ g, (Value.slice a m cap).ownBlock = some g → g < W.heap.size := fun g hg => (hn.lt g hg).2
  have hne0 : (Value.slice a m cap).ownBlock ≠ some W.heap.size := fun e => by have := hlt0 _ e; omega
  have HNE := Lib.hid hne0
  have HA := Lib.hid ha
  have HM := Lib.hid hm
  have HC := Lib.hid hc
  have HJ := Lib.hid hJ
  have HY := Lib.hid hY
  have HF := Lib.hid hf
  have HL := Lib.hid (lead_range hbox)
  have HB0 : Hid (Below W.heap.size W (W.alloc (.cells (dig8 f) 68))) := Lib.hid ((Below.refl _ W).alloc (Nat.le_refl _) (.cells (dig8 f) 68))
  have c0 : (W.alloc (.cells (dig8 f) 68)).cell? ⟨Bl, 0, none⟩ = some (.slice a m cap) := (hbox.push _).cell 0 rfl
  have HN := Lib.hid (hn.kept HB0.out)
  have HR := Lib.hid (RowAt.new W 68 (dig8 f))
  have HJ0 := Lib.hid (hJ [] _ _ h0 (OffT.of_below HB0.out _ (Nat.le_refl _)))
  generalize hxs : leadF n cs f ++ [endF n cs f] = xs
  have HXS := Lib.hid hxs
  clear hm hc hJ hY hf ha hn hbox h0 hl hlt0 hne0 hxs HB0
  refine callsIn_of_wp Try.func121 rfl trivial ?_ rfl
  simp only [Try.ntmps121, List.size_toArray, List.length_cons, List.length_nil, Nat.reduceAdd, Nat.reduceSub, Array.replicate_succ, Array.replicate_zero, List.push_toArray, List.append_toArray, List.nil_append, List.cons_append]
  gi_wp2_with (first | (refine wpListIn_load8 rfl _ rfl Bl 1 rfl f HL.out ?_) | (refine wpListIn_store_row rfl 68 _ _ rfl _ _ rfl rfl 68 _ (heap_at _ _ _ (by simp)) (by kernel_rfl) rfl (by kernel_rfl) ?_; rw [setRow_at _ _ _ _ _ (by simp)]) | fail)
  gi_loopg [11] m (fun q i wr => ∃ (j : Nat) (g : Nat → Nat) (pre : List (Nat → Nat)), q + j = m ∧ i = .int .i64 j ∧ IsRow n g ∧ pre.length = j ∧ pre ++ (leadF n (cs.drop j) g ++ [endF n (cs.drop j) g]) = xs ∧ J pre wr ∧ RowAt wr W.heap.size 68 (dig8 g) ∧ NewD 0 wr (.slice a m cap) cs)
  case atStart => exact ⟨0, f, [], by omega, rfl, HF.out, rfl, HXS.out, HJ0.out, HR.out, HN.out⟩
  case round =>
    clear HF HXS HJ0 HR HN
    obtain ⟨j, g, pre, hq, rfl, hg, hpl, hx, hj, hr, hn⟩ := hrel
    have HG := Lib.hid hg
    by_cases hlt : j < m
    · obtain ⟨q', rfl⟩ : ∃ q', gk = q' + 1 := ⟨gk - 1, by omega⟩
      obtain ⟨gb, rfl⟩ := HA.out (by omega)
      have hjx : j < cs.length := by rw [HM.out]; exact hlt
      rw [List.drop_eq_getElem_cons hjx] at hx
      have hrow := HC.out _ (List.getElem_mem hjx)
      have hload : wr.rangeAt gb (j * 8) (cells8 cs[j]) := fun k u hu => by
        have h2 := World.ownsRow.cells hn (g := gb) rfl _ u (flat_at cs j hjx k u hu)
        rw [Addr.add_mid, Nat.zero_add] at h2
        exact h2
      generalize cs[j] = x at *
      have HL := Lib.hid hload
      have HX2 := Lib.hid (show (pre ++ [g]) ++ (leadF n (cs.drop (j + 1)) (mulR n g x) ++ [endF n (cs.drop (j + 1)) (mulR n g x)]) = xs from by rw [← hx]; simp [leadF, endF])
      have HX := Lib.hid hrow
      have hji : (j : Int) < m := by omega
      have hbA : Below wr.heap.size wr (wr.alloc (.cells (dig8 x) 68)) := (Below.refl _ wr).alloc (Nat.le_refl _) (.cells (dig8 x) 68)
      have hsz : W.heap.size < wr.heap.size := hr.lt
      have hj1 := HJ.out _ _ _ hj (OffT.of_below hbA W.heap.size (by omega))
      have HR1 := Lib.hid (hr.push (.cells (dig8 x) 68))
      have HN1 := Lib.hid (hn.kept hbA)
      have HXX := Lib.hid (RowAt.new wr 68 (dig8 x))
      obtain ⟨fn, tmps, assign, body, hy, hR⟩ := HY.out _ g _ hg (by omega) hj1
      clear hx hrow hload hbA hj hj1 hn hr hg
      gi_wp2_with (first | (refine wpListIn_load8 rfl _ rfl gb (j * 8) rfl x HL.out ?_) | (refine wpListIn_store_row rfl 68 _ _ rfl _ _ rfl rfl 68 _ (heap_at _ _ _ (by simp)) (by kernel_rfl) rfl (by kernel_rfl) ?_; rw [setRow_at _ _ _ _ _ (by simp)]) | (refine wpListIn_load_row rfl 68 _ rfl _ rfl 68 _ _ _ HR1.out Try.underlying68 rfl (by kernel_rfl) ?_) | fail)
      refine hR.mono ?_
      rintro e w3 ⟨rfl, hj3, hk3⟩
      have HR3 := Lib.hid (hk3.row _ _ HR1.out)
      have HX3 := Lib.hid (hk3.row _ _ HXX.out)
      have HN3 := Lib.hid (HN1.out.keepT hk3)
      have HJ3 := Lib.hid hj3
      have HS3 := Lib.hid (show W.heap.size < w3.heap.size from (show RowAt w3 W.heap.size 68 (dig8 g) from HR3.out).lt)
      clear hj3 hk3 HR1 HXX HN1 hy hR HL
      gi_wp2_with (first | (refine wpListIn_load_row rfl 68 _ rfl _ rfl 68 _ _ _ HR3.out Try.underlying68 rfl (by kernel_rfl) ?_) | (refine wpListIn_load_row rfl 68 _ rfl _ rfl 68 _ _ _ HX3.out Try.underlying68 rfl (by kernel_rfl) ?_) | fail)
      refine ⟨trivial, ?_⟩
      refine (callsIn_wide.2 (times_row n g x HG.out HX.out w3)).mono ?_
      rintro e w4 ⟨rfl, hb4⟩
      have HR4 : Hid (RowAt w4 W.heap.size 68 (dig8 g)) := Lib.hid ((show RowAt w3 W.heap.size 68 (dig8 g) from HR3.out).kept hb4)
      have HN4 := Lib.hid (HN3.out.kept hb4)
      have HJ5 := Lib.hid (HJ.out _ _ _ HJ3.out ((OffT.of_below hb4 W.heap.size (by have := HS3.out; omega)).trans (OffT.setRow HR4.out (Nat.le_refl _) (dig8 (mulR n g x)))))
      clear hb4 HR3 HX3 HN3 HJ3
      gi_wp2_with (first | (refine wpListIn_store_row rfl 68 _ _ rfl _ _ rfl rfl 68 _ (HR4.out) (by kernel_rfl) rfl (by kernel_rfl) ?_) | fail)
      gi_roundg q'
      case measure => omega
      case rel => exact ⟨j + 1, mulR n g x, pre ++ [g], by omega, by go_num, isRow_mul HG.out HX.out, by simp [hpl], HX2.out, HJ5.out, HR4.out.row _, HN4.out.setRowOther _ _ HNE.out⟩
    · obtain rfl : gk = 0 := by omega
      obtain rfl : j = m := by omega
      rw [List.drop_eq_nil_of_le (by rw [HM.out]; exact Nat.le_refl _)] at hx
      have hx : pre ++ [g] = xs := hx
      subst hx
      have HR1 := Lib.hid hr
      obtain ⟨fn, tmps, assign, body, hy, hR⟩ := HY.out _ g _ hg (by omega) hj
      clear hj hr hn hg
      gi_wp2_with (first | (refine wpListIn_load_row rfl 68 _ rfl _ rfl 68 _ _ _ HR1.out Try.underlying68 rfl (by kernel_rfl) ?_) | fail)
      refine hR.mono ?_
      rintro e w3 ⟨rfl, hj3, hk3⟩
      gi_wp2
      go_end0
      exact ⟨⟨_, rfl⟩, hj3⟩
end Go.Proofs.Ytpfnamiacagocaa
