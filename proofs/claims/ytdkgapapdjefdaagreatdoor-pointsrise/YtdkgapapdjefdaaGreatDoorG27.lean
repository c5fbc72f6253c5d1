/- numberIn, textIn; the closure that puts a value's number, or text, into the set. -/
import Derived.Test.YtdkgapapdjefdaaGreatDoorG12
import Derived.Test.YtdkgapapdjefdaaGreatDoorG22
import Derived.Test.YtdkgapapdjefdaaGreatDoorG20
import Derived.BigRegion
import Derived.Test.YtdkgapapdjefdaaGreatDoorG23
namespace Go.Proofs.YtdkgapapdjefdaaGreatDoor
open Go.RowKit Go.MapKept

set_option maxHeartbeats 1000000 in
theorem numberIn_any (k : Int) (y : Bool) (c x : Int) (t : ByteArray) (a : Option Addr) (n m : Nat) (w : World) :
    Calls Tryz.prog 16 #[.agg #[.int .i64 k, .bool y, .int .i64 c, .int .i64 x, .string t, .slice a n m]] w fun e w' => e = .returned (.tuple #[.agg #[.int .i64 c, .int .i64 x], .bool (k == 3)]) ∧ Below w.heap.size w w' := by
  go_enter Tryz.func16, Tryz.ntmps16
  go_wp2_with fail
  go_region
  go_wp2
  refine bodyPost_ret (v := .tuple #[.agg #[.int .i64 c, .int .i64 x], .bool (k == 3)]) (by simp [results, Tryz.results16, go_sem]) rfl ⟨rfl, ?_⟩
  exact (((Below.refl _ w).alloc (Nat.le_refl _) _).alloc (by simp) _).drew

set_option maxHeartbeats 1000000 in
theorem textIn_any (k : Int) (y : Bool) (c x : Int) (t : ByteArray) (a : Option Addr) (n m : Nat) (w : World) :
    Calls Tryz.prog 19 #[.agg #[.int .i64 k, .bool y, .int .i64 c, .int .i64 x, .string t, .slice a n m]] w fun e w' => e = .returned (.tuple #[.string t, .bool (k == 4)]) ∧ Below w.heap.size w w' := by
  go_enter Tryz.func19, Tryz.ntmps19
  go_wp2_with fail
  go_region
  go_wp2
  go_ret2
  exact ⟨rfl, ((Below.refl _ w).alloc (Nat.le_refl _) _).drew⟩

theorem setBut9 {b : Nat} {w : World} (o : Obj) : But b w { w with heap := w.heap.setIfInBounds b o } := by
  refine ⟨rfl, rfl, rfl, by simp, fun k _ hne => ?_⟩
  have hne' : ¬ b = k := fun e => hne e.symm
  simp only [Array.getElem?_setIfInBounds, if_neg hne']

/-- what the closure holds: which values are taken, and the set -/
structure SeeM {α : Type} (enc : α → Value) (f p q b B : Nat) (K : List α) (w : World) : Prop where
  cp : w.cell? ⟨p, 0, none⟩ = some (.func (.func f) #[] #[])
  cq : w.cell? ⟨q, 0, none⟩ = some (.map (some b))
  ms : MSet enc b K w
  np : p ≠ b
  nq : q ≠ b
  lo : B ≤ b
theorem not_walk_of_cell9 {w : World} {a : Addr} {v : Value} (h : w.cell? a = some v) : ∃ o : Obj, w.heap[a.block]? = some o ∧ True := by
  unfold World.cell? at h
  cases ho : w.heap[a.block]? with
  | none => simp [ho] at h
  | some o => exact ⟨o, rfl, trivial⟩
theorem lt_of_cell {w : World} {p o : Nat} {v : Value} (h : w.cell? ⟨p, o, none⟩ = some v) : p < w.heap.size := by
  obtain ⟨ob, h1, _⟩ := not_walk_of_cell9 h
  exact (Array.getElem?_eq_some_iff.1 h1).1
theorem SeeM.but {α : Type} {enc : α → Value} {f p q b B : Nat} {K K' : List α} {w w' : World} (h : SeeM enc f p q b B K w) (hb : But b w w') (hm : MSet enc b K' w') : SeeM enc f p q b B K' w' :=
  ⟨(hb.cell (q := ⟨p, 0, none⟩) (lt_of_cell h.cp) h.np).trans h.cp, (hb.cell (q := ⟨q, 0, none⟩) (lt_of_cell h.cq) h.nq).trans h.cq, hm, h.np, h.nq, h.lo⟩
theorem SeeM.keep {α : Type} {enc : α → Value} {f p q b B : Nat} {K : List α} {w w' : World} (h : SeeM enc f p q b B K w) (hb : Below w.heap.size w w') : SeeM enc f p q b B K w' :=
  h.but (But.of hb) (h.ms.same (hb.block b h.ms.low))

/-- a value's number, a value's text -/
def numV : Tree → List (Int × Int) | .mk k _ c x _ _ => if k = 3 then [(c, x)] else []
def txtV : Tree → List ByteArray | .mk k _ _ _ t _ => if k = 4 then [t] else []

set_option maxRecDepth 10000 in
set_option maxHeartbeats 1000000 in
theorem seeD_any (p q b B : Nat) (K : List (Int × Int)) (V : Tree) (u : Array Value) (w : World) (h : SeeM encD 16 p q b B K w) (hV : Mem B w V u) :
    Calls Tryz.prog 35 #[.agg u, .pointer (some ⟨p, 0, none⟩), .pointer (some ⟨q, 0, none⟩)] w fun e w' => e = .returned (.tuple #[]) ∧ MSet encD b ((numV V).foldl insK K) w' ∧ But b w w' := by
  obtain ⟨k, y, c, x, t, ks⟩ := V
  rw [Mem] at hV
  obtain ⟨_, _, a, cap, rfl, _⟩ := hV
  have cp := h.cp
  have cq := h.cq
  have lp := lt_of_cell cp
  have lq := lt_of_cell cq
  have h' := hide h
  clear h
  go_enter Tryz.func35, Tryz.ntmps35
  go_wp2_with fail
  refine (numberIn_any k y c x t a ks.length cap _).mono ?_
  rintro e w1 ⟨rfl, hb⟩
  obtain ⟨hc, hf⟩ := bcell hb
  have hbw : Below w.heap.size w w1 := ((Below.refl _ w).alloc (Nat.le_refl _) _).trans (hb.mono (by simp))
  have h1 := hide ((unhide h').keep hbw)
  have cp1 := (unhide h1).cp
  have cq1 := (unhide h1).cq
  have hsz : w.heap.size ≤ w1.heap.size := hbw.size
  clear hb hc hf cp cq
  by_cases h3 : k = 3
  · subst h3
    have cq2 : (w1.alloc (.cells #[.int .i64 c, .int .i64 x] 24)).cell? ⟨q, 0, none⟩ = some (.map (some b)) := ((vbelow_new w1 _).cell (p := ⟨q, 0, none⟩) (Nat.lt_of_lt_of_le lq hsz)).trans cq1
    obtain ⟨o, hrun, hms⟩ := MSet.put ((unhide h1).ms.same (w' := w1.alloc (.cells #[.int .i64 c, .int .i64 x] 24)) (Below.heap_alloc _ _ b (unhide h1).ms.low)) keyL_D Tryz.underlying73 (c, x) (.agg #[])
    have hrun' : (Instr.mapUpdate 73 (.map (some b)) (.agg #[.int .i64 c, .int .i64 x]) (.agg #[])).run Tryz.prog (w1.alloc (.cells #[.int .i64 c, .int .i64 x] 24)) = .ok () { w1.alloc (.cells #[.int .i64 c, .int .i64 x] 24) with heap := (w1.alloc (.cells #[.int .i64 c, .int .i64 x] 24)).heap.setIfInBounds b o } := hrun
    have hms' := hide hms
    clear hrun hms
    have hbt := hide ((But.of (p := b) hbw).trans ((But.of (vbelow_new w1 (.cells #[.int .i64 c, .int .i64 x] 24))).trans (setBut9 o)))
    generalize hX : ({ w1.alloc (.cells #[.int .i64 c, .int .i64 x] 24) with heap := (w1.alloc (.cells #[.int .i64 c, .int .i64 x] 24)).heap.setIfInBounds b o } : World) = X at *
    clear hX
    go_wp2
    go_end0
    exact ⟨rfl, by simpa [numV] using unhide hms', unhide hbt⟩
  · have h3' : (k == 3) = false := by simp [h3]
    have hk3 := hide h3
    clear h3
    go_wp2
    go_end0
    refine ⟨rfl, ?_, (But.of hbw).trans (But.of (vbelow_new _ _))⟩
    simp only [numV, if_neg (unhide hk3), List.foldl_nil]
    exact (unhide h1).ms.same (Below.heap_alloc _ _ b (unhide h1).ms.low)

set_option maxHeartbeats 1000000 in
theorem seeT_any (p q b B : Nat) (K : List ByteArray) (V : Tree) (u : Array Value) (w : World) (h : SeeM Value.string 19 p q b B K w) (hV : Mem B w V u) :
    Calls Tryz.prog 40 #[.agg u, .pointer (some ⟨p, 0, none⟩), .pointer (some ⟨q, 0, none⟩)] w fun e w' => e = .returned (.tuple #[]) ∧ MSet Value.string b ((txtV V).foldl insK K) w' ∧ But b w w' := by
  obtain ⟨k, y, c, x, t, ks⟩ := V
  rw [Mem] at hV
  obtain ⟨_, _, a, cap, rfl, _⟩ := hV
  have cp := h.cp
  have cq := h.cq
  have lp := lt_of_cell cp
  have lq := lt_of_cell cq
  have h' := hide h
  clear h
  go_enter Tryz.func40, Tryz.ntmps40
  go_wp2_with fail
  refine (textIn_any k y c x t a ks.length cap _).mono ?_
  rintro e w1 ⟨rfl, hb⟩
  obtain ⟨hc, hf⟩ := bcell hb
  have hbw : Below w.heap.size w w1 := ((Below.refl _ w).alloc (Nat.le_refl _) _).trans (hb.mono (by simp))
  have h1 := hide ((unhide h').keep hbw)
  have cp1 := (unhide h1).cp
  have cq1 := (unhide h1).cq
  have hsz : w.heap.size ≤ w1.heap.size := hbw.size
  clear hb hc hf cp cq
  by_cases h3 : k = 4
  · subst h3
    obtain ⟨o, hrun, hms⟩ := MSet.put (unhide h1).ms keyL_T Tryz.underlying82 t (.agg #[])
    have hms' := hide hms
    clear hms
    have hbt := hide ((But.of (p := b) hbw).trans (setBut9 o))
    generalize hX : ({ w1 with heap := w1.heap.setIfInBounds b o } : World) = X at *
    clear hX
    go_wp2
    go_end0
    exact ⟨rfl, by simpa [txtV] using unhide hms', unhide hbt⟩
  · have h3' : (k == 4) = false := by simp [h3]
    have hk3 := hide h3
    clear h3
    go_wp2
    go_end0
    refine ⟨rfl, ?_, But.of hbw⟩
    simp only [txtV, if_neg (unhide hk3), List.foldl_nil]
    exact (unhide h1).ms
end Go.Proofs.YtdkgapapdjefdaaGreatDoor

/- eachValue: all values that a test holds others against, one by one. -/
namespace Go.Proofs.YtdkgapapdjefdaaGreatDoor
open Go.RowKit Go.MapKept

mutual
/-- the values that a test holds others against -/
def valsS : TS → List Tree
  | .mk k a b _ _ ks => if k = 2 ∨ k = 3 ∨ k = 4 ∨ k = 5 ∨ k = 6 then [a] else if k = 7 then [a, b] else if k = 8 ∨ k = 9 then valsL ks else []
def valsL : List TS → List Tree
  | [] => []
  | u :: us => valsS u ++ valsL us
end
theorem valsL_app : ∀ (l k : List TS), valsL (l ++ k) = valsL l ++ valsL k
  | [], k => by rw [valsL]; rfl
  | u :: us, k => by rw [List.cons_append, valsL, valsL, valsL_app us k, List.append_assoc]
theorem valsL_take {ks : List TS} {m : Nat} {u : TS} (h : ks[m]? = some u) : valsL (ks.take (m + 1)) = valsL (ks.take m) ++ valsS u := by
  rw [List.take_add_one, h, valsL_app]
  simp [valsL]
theorem vals_one {k : Int} {a b : Tree} {oa ob : Bool} {ks : List TS} (h : k = 2 ∨ k = 3 ∨ k = 4 ∨ k = 5 ∨ k = 6) : valsS (.mk k a b oa ob ks) = [a] := by rw [valsS, if_pos h]
theorem vals_two {a b : Tree} {oa ob : Bool} {ks : List TS} : valsS (.mk 7 a b oa ob ks) = [a, b] := by rw [valsS, if_neg (by omega), if_pos rfl]
theorem vals_kids {k : Int} {a b : Tree} {oa ob : Bool} {ks : List TS} (h : k = 8 ∨ k = 9) : valsS (.mk k a b oa ob ks) = valsL ks := by rw [valsS, if_neg (by omega), if_neg (by omega), if_pos h]
theorem vals_none {k : Int} {a b : Tree} {oa ob : Bool} {ks : List TS} (h : k < 2 ∨ 9 < k) : valsS (.mk k a b oa ob ks) = [] := by rw [valsS, if_neg (by omega), if_neg (by omega), if_neg (by omega)]

/-- with all that the values have put in -/
def insV {α : Type} [DecidableEq α] (f : Tree → List α) (K : List α) (vs : List Tree) : List α := vs.foldl (fun K v => (f v).foldl insK K) K
theorem insV_app {α : Type} [DecidableEq α] (f : Tree → List α) (K : List α) (l k : List Tree) : insV f K (l ++ k) = insV f (insV f K l) k := by simp [insV]

/-- what a closure that sees values promises -/
def Sees {α : Type} [DecidableEq α] (enc : α → Value) (f g : Nat) (fv : Tree → List α) : Prop :=
  (∀ args w, (callFunc g args).run Tryz.prog w = .ok (.enter g args) w) ∧ ∀ (p q b B : Nat) (K : List α) (V : Tree) (u : Array Value) (w : World), SeeM enc f p q b B K w → Mem B w V u →
    Calls Tryz.prog g #[.agg u, .pointer (some ⟨p, 0, none⟩), .pointer (some ⟨q, 0, none⟩)] w fun e w' => e = .returned (.tuple #[]) ∧ MSet enc b ((fv V).foldl insK K) w' ∧ But b w w'

def EachC {α : Type} [DecidableEq α] (enc : α → Value) (f g : Nat) (fv : Tree → List α) (T : TS) : Prop := ∀ (p q b B : Nat) (K : List α) (u : Array Value) (w : World), SeeM enc f p q b B K w → MemS B w T u → B ≤ w.heap.size →
  Calls Tryz.prog 36 #[.agg u, .func (.func g) #[] #[.pointer (some ⟨p, 0, none⟩), .pointer (some ⟨q, 0, none⟩)]] w fun e w' => e = .returned (.tuple #[]) ∧ MSet enc b (insV fv K (valsS T)) w' ∧ But b w w'

set_option maxRecDepth 100000 in
set_option maxHeartbeats 8000000 in
theorem each_one {α : Type} [DecidableEq α] {enc : α → Value} {f g : Nat} {fv : Tree → List α} (hs : Sees enc f g fv) (k : Int) (a b' : Tree) (oa ob : Bool) (ks : List TS) (hk : k = 2 ∨ k = 3 ∨ k = 4 ∨ k = 5 ∨ k = 6) : EachC enc f g fv (.mk k a b' oa ob ks) := by
  intro p q b B K u w hS hM hB
  rw [vals_one hk]
  rw [MemS] at hM
  obtain ⟨hkl, a0, a1, a2, a3, a4, a5, b0, b1, b2, b3, b4, b5, ad, cap, ha, hb, rfl, hks⟩ := hM
  obtain ⟨y1, r1, x1, t1, l1, n1, p1, rfl, rfl, rfl, rfl, rfl, rfl⟩ := ha.six
  obtain ⟨y2, r2, x2, t2, l2, n2, p2, rfl, rfl, rfl, rfl, rfl, rfl⟩ := hb.six
  have eg := hs.1
  have C := hide (fun W (hb : Below w.heap.size w W) => hs.2 p q b B K a _ W (hS.keep hb) (Mem.below (hb.mono hB) ha))
  clear ha hb hks hS hs
  rcases hk with rfl | rfl | rfl | rfl | rfl
  all_goals
    go_enter Tryz.func36, Tryz.ntmps36
    go_wp2_with fail
    refine (unhide C _ (vbelow_new _ _)).mono ?_
    rintro e w1 ⟨rfl, hm, hbt⟩
    have hm' := hide hm
    have hb' := hide ((But.of (vbelow_new _ _)).trans hbt)
    clear hm hbt
    go_wp2
    go_end0
    exact ⟨rfl, by simpa [insV] using unhide hm', unhide hb'⟩

set_option maxRecDepth 100000 in
set_option maxHeartbeats 8000000 in
theorem each_two {α : Type} [DecidableEq α] {enc : α → Value} {f g : Nat} {fv : Tree → List α} (hs : Sees enc f g fv) (a b' : Tree) (oa ob : Bool) (ks : List TS) : EachC enc f g fv (.mk 7 a b' oa ob ks) := by
  intro p q b B K u w hS hM hB
  rw [vals_two]
  rw [MemS] at hM
  obtain ⟨hkl, a0, a1, a2, a3, a4, a5, b0, b1, b2, b3, b4, b5, ad, cap, ha, hb, rfl, hks⟩ := hM
  obtain ⟨y1, r1, x1, t1, l1, n1, p1, rfl, rfl, rfl, rfl, rfl, rfl⟩ := ha.six
  obtain ⟨y2, r2, x2, t2, l2, n2, p2, rfl, rfl, rfl, rfl, rfl, rfl⟩ := hb.six
  have eg := hs.1
  have hlb : b < w.heap.size := hS.ms.low
  have C := hide (fun W (hb : Below w.heap.size w W) => hs.2 p q b B K a _ W (hS.keep hb) (Mem.below (hb.mono hB) ha))
  have D := hide (fun W (hbt : But b w W) (hm : MSet enc b ((fv a).foldl insK K) W) => hs.2 p q b B _ b' _ W (hS.but hbt hm) (Mem.below (hbt.below hS.lo hB) hb))
  clear ha hb hks hS hs
  go_enter Tryz.func36, Tryz.ntmps36
  go_wp2_with fail
  have hB16 := B16.new (w := w) (t := 35) (u := #[.int .i64 7, .int .i64 a.kd, .bool y1, .int .i64 r1, .int .i64 x1, .string t1, .slice l1 n1 p1, .int .i64 b'.kd, .bool y2, .int .i64 r2, .int .i64 x2, .string t2, .slice l2 n2 p2, .bool oa, .bool ob, .slice ad ks.length cap])
  refine (unhide C _ (vbelow_new _ _)).mono ?_
  rintro e w1 ⟨rfl, hm, hbt⟩
  have hb1 := hide ((But.of (vbelow_new _ _)).trans hbt)
  have c7 : w1.cell? ⟨w.heap.size, 7, none⟩ = some (.int .i64 b'.kd) := (hbt.cell (q := ⟨w.heap.size, 7, none⟩) (by simp) (by simp; omega)).trans (hB16.cell 7 _ rfl)
  have c8 : w1.cell? ⟨w.heap.size, 8, none⟩ = some (.bool y2) := (hbt.cell (q := ⟨w.heap.size, 8, none⟩) (by simp) (by simp; omega)).trans (hB16.cell 8 _ rfl)
  have c9 : w1.cell? ⟨w.heap.size, 9, none⟩ = some (.int .i64 r2) := (hbt.cell (q := ⟨w.heap.size, 9, none⟩) (by simp) (by simp; omega)).trans (hB16.cell 9 _ rfl)
  have c10 : w1.cell? ⟨w.heap.size, 10, none⟩ = some (.int .i64 x2) := (hbt.cell (q := ⟨w.heap.size, 10, none⟩) (by simp) (by simp; omega)).trans (hB16.cell 10 _ rfl)
  have c11 : w1.cell? ⟨w.heap.size, 11, none⟩ = some (.string t2) := (hbt.cell (q := ⟨w.heap.size, 11, none⟩) (by simp) (by simp; omega)).trans (hB16.cell 11 _ rfl)
  have c12 : w1.cell? ⟨w.heap.size, 12, none⟩ = some (.slice l2 n2 p2) := (hbt.cell (q := ⟨w.heap.size, 12, none⟩) (by simp) (by simp; omega)).trans (hB16.cell 12 _ rfl)
  have hm' := hide hm
  clear hm hbt hB16
  go_wp2_with fail
  refine (unhide D _ (unhide hb1) (unhide hm')).mono ?_
  rintro e w2 ⟨rfl, hm, hbt⟩
  have hm2 := hide hm
  have hb2 := hide ((unhide hb1).trans hbt)
  clear hm hbt
  go_wp2
  go_end0
  exact ⟨rfl, by simpa [insV] using unhide hm2, unhide hb2⟩

set_option maxRecDepth 100000 in
set_option maxHeartbeats 8000000 in
theorem each_none {α : Type} [DecidableEq α] {enc : α → Value} {f g : Nat} {fv : Tree → List α} (k : Int) (a b' : Tree) (oa ob : Bool) (ks : List TS) (hk : k < 2 ∨ 9 < k) : EachC enc f g fv (.mk k a b' oa ob ks) := by
  intro p q b B K u w hS hM hB
  rw [vals_none hk]
  rw [MemS] at hM
  obtain ⟨hkl, a0, a1, a2, a3, a4, a5, b0, b1, b2, b3, b4, b5, ad, cap, ha, hb, rfl, hks⟩ := hM
  obtain ⟨y1, r1, x1, t1, l1, n1, p1, rfl, rfl, rfl, rfl, rfl, rfl⟩ := ha.six
  obtain ⟨y2, r2, x2, t2, l2, n2, p2, rfl, rfl, rfl, rfl, rfl, rfl⟩ := hb.six
  have H := hide (hS.keep (vbelow_new w (.cells #[.int .i64 k, .int .i64 a.kd, .bool y1, .int .i64 r1, .int .i64 x1, .string t1, .slice l1 n1 p1, .int .i64 b'.kd, .bool y2, .int .i64 r2, .int .i64 x2, .string t2, .slice l2 n2 p2, .bool oa, .bool ob, .slice ad ks.length cap] 35)))
  have k2 : (k == 2) = false := by simp; omega
  have k3 : (k == 3) = false := by simp; omega
  have k4 : (k == 4) = false := by simp; omega
  have k5 : (k == 5) = false := by simp; omega
  have k6 : (k == 6) = false := by simp; omega
  have k7 : (k == 7) = false := by simp; omega
  have k8 : (k == 8) = false := by simp; omega
  have k9 : (k == 9) = false := by simp; omega
  clear ha hb hks hS hk
  go_enter Tryz.func36, Tryz.ntmps36
  go_wp2
  go_end0
  exact ⟨rfl, (unhide H).ms, But.of (vbelow_new _ _)⟩
end Go.Proofs.YtdkgapapdjefdaaGreatDoor

/- eachValue of a test with kids, kind 8. -/
namespace Go.Proofs.YtdkgapapdjefdaaGreatDoor
open Go.RowKit Go.MapKept

set_option maxRecDepth 100000 in
set_option maxHeartbeats 8000000 in
theorem each_k8 {α : Type} [DecidableEq α] {enc : α → Value} {f g : Nat} {fv : Tree → List α} (a b' : Tree) (oa ob : Bool) (ks : List TS) (IH : ∀ u ∈ ks, EachC enc f g fv u) : EachC enc f g fv (.mk 8 a b' oa ob ks) := by
  intro p q b B K u w hS hM hB
  rw [vals_kids (by decide)]
  rw [MemS] at hM
  obtain ⟨hkl, a0, a1, a2, a3, a4, a5, b0, b1, b2, b3, b4, b5, ad, cap, ha, hb, rfl, hks⟩ := hM
  obtain ⟨y1, r1, x1, t1, l1, n1, p1, rfl, rfl, rfl, rfl, rfl, rfl⟩ := ha.six
  obtain ⟨y2, r2, x2, t2, l2, n2, p2, rfl, rfl, rfl, rfl, rfl, rfl⟩ := hb.six
  have hlb : b < w.heap.size := hS.ms.low
  have S0 := hide hS
  have hks' := hide hks
  have IH' := hide IH
  obtain ⟨W0, hW0⟩ : ∃ W0, W0 = (w.alloc (.cells #[.int .i64 8, .int .i64 a.kd, .bool y1, .int .i64 r1, .int .i64 x1, .string t1, .slice l1 n1 p1, .int .i64 b'.kd, .bool y2, .int .i64 r2, .int .i64 x2, .string t2, .slice l2 n2 p2, .bool oa, .bool ob, .slice ad ks.length cap] 35)) := ⟨_, rfl⟩
  have NB : Hid (But b w W0) := hide (by rw [hW0]; exact But.of (vbelow_new _ _))
  have S1 : Hid (SeeM enc f p q b B K W0) := hide (by rw [hW0]; exact hS.keep (vbelow_new _ _))
  clear IH ha hb hks hS
  go_enter Tryz.func36, Tryz.ntmps36
  go_wp2
  rw [← hW0]
  clear hW0
  go_loopw [34] (fun i wr => ∃ m : Nat, m ≤ ks.length ∧ i = .int .i64 (m : Int) ∧ Hid (But b w wr) ∧ Hid (MSet enc b (insV fv K (valsL (ks.take m))) wr)) (fun i _ => ks.length - (intOf i).toNat)
  case atStart => exact ⟨0, Nat.zero_le _, rfl, NB, hide (by simpa [valsL, insV] using (unhide S1).ms)⟩
  case round =>
    obtain ⟨m, hml, rfl, HB, HM⟩ := hrel
    by_cases hlt2 : m < ks.length
    · have hi1 : (m : Int) < (ks.length : Int) := by omega
      obtain ⟨u, hu⟩ : ∃ u, ks[m]? = some u := ⟨_, List.getElem?_eq_getElem hlt2⟩
      obtain ⟨bl, off, rfl, hlt, hm⟩ := unhide hks' (by rintro rfl; simp at hlt2)
      have HT : Hid (valsL (ks.take (m + 1)) = valsL (ks.take m) ++ valsS u) := hide (valsL_take hu)
      have SW := hide ((unhide S0).but (unhide HB) (unhide HM))
      have HU := hide (unhide IH' u (List.mem_of_getElem? hu))
      have hBW : Below B w wr := (unhide HB).below (unhide S0).lo hB
      obtain ⟨cs, h6, hmu⟩ := MemSL.at (MemSL.below hBW hlt hm) m u hu
      have HMu := hide hmu
      have hwr : w.heap.size ≤ wr.heap.size := (unhide HB).size
      cases u with
      | mk k' ta tb oa' ob' kk =>
        rw [MemS] at hmu
        obtain ⟨_, d0, d1, d2, d3, d4, d5, e0, e1, e2, e3, e4, e5, ad', cp, hta, htb, rfl, _⟩ := hmu
        obtain ⟨y3, r3, x3, t3, l3, n3, p3, rfl, rfl, rfl, rfl, rfl, rfl⟩ := hta.six
        obtain ⟨y4, r4, x4, t4, l4, n4, p4, rfl, rfl, rfl, rfl, rfl, rfl⟩ := htb.six
        clear hta htb
        obtain ⟨c0, c1, c2, c3, c4, c5, c6, c7, c8, c9, c10, c11, c12, c13, c14, c15⟩ := h6.tell
        clear hu h6 hm
        go_wp2_with fail
        have hba := vbelow_new wr (.cells #[.int .i64 k', .int .i64 ta.kd, .bool y3, .int .i64 r3, .int .i64 x3, .string t3, .slice l3 n3 p3, .int .i64 tb.kd, .bool y4, .int .i64 r4, .int .i64 x4, .string t4, .slice l4 n4 p4, .bool oa', .bool ob', .slice ad' kk.length cp] 35)
        refine (unhide HU p q b B _ _ _ ((unhide SW).keep hba) (MemS.below (hba.mono (by omega)) (unhide HMu)) (by simp; omega)).mono ?_
        rintro e w2 ⟨rfl, hm2, hb2⟩
        have HB2 := hide (((unhide HB).trans (But.of hba)).trans hb2)
        have HM2 : Hid (MSet enc b (insV fv K (valsL (ks.take (m + 1)))) w2) := hide (by rw [unhide HT, insV_app]; exact hm2)
        clear hm2 hb2 hba HB HM HT HU HMu c0 c1 c2 c3 c4 c5 c6 c7 c8 c9 c10 c11 c12 c13 c14 c15
        go_wp2
        go_roundw
        case rel => exact ⟨m + 1, by omega, by go_num, HB2, HM2⟩
        case measure => simp [intOf]; omega
    · obtain rfl : m = ks.length := by omega
      have HM2 : Hid (MSet enc b (insV fv K (valsL ks)) wr) := hide (by simpa using unhide HM)
      go_wp2
      go_end0
      exact ⟨rfl, unhide HM2, unhide HB⟩
end Go.Proofs.YtdkgapapdjefdaaGreatDoor

/- eachValue of a test with kids, kind 9. -/
namespace Go.Proofs.YtdkgapapdjefdaaGreatDoor
open Go.RowKit Go.MapKept

set_option maxRecDepth 100000 in
set_option maxHeartbeats 8000000 in
theorem each_k9 {α : Type} [DecidableEq α] {enc : α → Value} {f g : Nat} {fv : Tree → List α} (a b' : Tree) (oa ob : Bool) (ks : List TS) (IH : ∀ u ∈ ks, EachC enc f g fv u) : EachC enc f g fv (.mk 9 a b' oa ob ks) := by
  intro p q b B K u w hS hM hB
  rw [vals_kids (by decide)]
  rw [MemS] at hM
  obtain ⟨hkl, a0, a1, a2, a3, a4, a5, b0, b1, b2, b3, b4, b5, ad, cap, ha, hb, rfl, hks⟩ := hM
  obtain ⟨y1, r1, x1, t1, l1, n1, p1, rfl, rfl, rfl, rfl, rfl, rfl⟩ := ha.six
  obtain ⟨y2, r2, x2, t2, l2, n2, p2, rfl, rfl, rfl, rfl, rfl, rfl⟩ := hb.six
  have hlb : b < w.heap.size := hS.ms.low
  have S0 := hide hS
  have hks' := hide hks
  have IH' := hide IH
  obtain ⟨W0, hW0⟩ : ∃ W0, W0 = (w.alloc (.cells #[.int .i64 9, .int .i64 a.kd, .bool y1, .int .i64 r1, .int .i64 x1, .string t1, .slice l1 n1 p1, .int .i64 b'.kd, .bool y2, .int .i64 r2, .int .i64 x2, .string t2, .slice l2 n2 p2, .bool oa, .bool ob, .slice ad ks.length cap] 35)) := ⟨_, rfl⟩
  have NB : Hid (But b w W0) := hide (by rw [hW0]; exact But.of (vbelow_new _ _))
  have S1 : Hid (SeeM enc f p q b B K W0) := hide (by rw [hW0]; exact hS.keep (vbelow_new _ _))
  clear IH ha hb hks hS
  go_enter Tryz.func36, Tryz.ntmps36
  go_wp2
  rw [← hW0]
  clear hW0
  go_loopw [34] (fun i wr => ∃ m : Nat, m ≤ ks.length ∧ i = .int .i64 (m : Int) ∧ Hid (But b w wr) ∧ Hid (MSet enc b (insV fv K (valsL (ks.take m))) wr)) (fun i _ => ks.length - (intOf i).toNat)
  case atStart => exact ⟨0, Nat.zero_le _, rfl, NB, hide (by simpa [valsL, insV] using (unhide S1).ms)⟩
  case round =>
    obtain ⟨m, hml, rfl, HB, HM⟩ := hrel
    by_cases hlt2 : m < ks.length
    · have hi1 : (m : Int) < (ks.length : Int) := by omega
      obtain ⟨u, hu⟩ : ∃ u, ks[m]? = some u := ⟨_, List.getElem?_eq_getElem hlt2⟩
      obtain ⟨bl, off, rfl, hlt, hm⟩ := unhide hks' (by rintro rfl; simp at hlt2)
      have HT : Hid (valsL (ks.take (m + 1)) = valsL (ks.take m) ++ valsS u) := hide (valsL_take hu)
      have SW := hide ((unhide S0).but (unhide HB) (unhide HM))
      have HU := hide (unhide IH' u (List.mem_of_getElem? hu))
      have hBW : Below B w wr := (unhide HB).below (unhide S0).lo hB
      obtain ⟨cs, h6, hmu⟩ := MemSL.at (MemSL.below hBW hlt hm) m u hu
      have HMu := hide hmu
      have hwr : w.heap.size ≤ wr.heap.size := (unhide HB).size
      cases u with
      | mk k' ta tb oa' ob' kk =>
        rw [MemS] at hmu
        obtain ⟨_, d0, d1, d2, d3, d4, d5, e0, e1, e2, e3, e4, e5, ad', cp, hta, htb, rfl, _⟩ := hmu
        obtain ⟨y3, r3, x3, t3, l3, n3, p3, rfl, rfl, rfl, rfl, rfl, rfl⟩ := hta.six
        obtain ⟨y4, r4, x4, t4, l4, n4, p4, rfl, rfl, rfl, rfl, rfl, rfl⟩ := htb.six
        clear hta htb
        obtain ⟨c0, c1, c2, c3, c4, c5, c6, c7, c8, c9, c10, c11, c12, c13, c14, c15⟩ := h6.tell
        clear hu h6 hm
        go_wp2_with fail
        have hba := vbelow_new wr (.cells #[.int .i64 k', .int .i64 ta.kd, .bool y3, .int .i64 r3, .int .i64 x3, .string t3, .slice l3 n3 p3, .int .i64 tb.kd, .bool y4, .int .i64 r4, .int .i64 x4, .string t4, .slice l4 n4 p4, .bool oa', .bool ob', .slice ad' kk.length cp] 35)
        refine (unhide HU p q b B _ _ _ ((unhide SW).keep hba) (MemS.below (hba.mono (by omega)) (unhide HMu)) (by simp; omega)).mono ?_
        rintro e w2 ⟨rfl, hm2, hb2⟩
        have HB2 := hide (((unhide HB).trans (But.of hba)).trans hb2)
        have HM2 : Hid (MSet enc b (insV fv K (valsL (ks.take (m + 1)))) w2) := hide (by rw [unhide HT, insV_app]; exact hm2)
        clear hm2 hb2 hba HB HM HT HU HMu c0 c1 c2 c3 c4 c5 c6 c7 c8 c9 c10 c11 c12 c13 c14 c15
        go_wp2
        go_roundw
        case rel => exact ⟨m + 1, by omega, by go_num, HB2, HM2⟩
        case measure => simp [intOf]; omega
    · obtain rfl : m = ks.length := by omega
      have HM2 : Hid (MSet enc b (insV fv K (valsL ks)) wr) := hide (by simpa using unhide HM)
      go_wp2
      go_end0
      exact ⟨rfl, unhide HM2, unhide HB⟩
end Go.Proofs.YtdkgapapdjefdaaGreatDoor

/- eachValue of any test. -/
namespace Go.Proofs.YtdkgapapdjefdaaGreatDoor
open Go.RowKit Go.MapKept

theorem each_of {α : Type} [DecidableEq α] {enc : α → Value} {f g : Nat} {fv : Tree → List α} (hs : Sees enc f g fv) (k : Int) (a b' : Tree) (oa ob : Bool) (ks : List TS) (IH : ∀ u ∈ ks, EachC enc f g fv u) : EachC enc f g fv (.mk k a b' oa ob ks) := by
  by_cases h1 : k = 2 ∨ k = 3 ∨ k = 4 ∨ k = 5 ∨ k = 6
  · exact each_one hs k a b' oa ob ks h1
  by_cases h7 : k = 7
  · subst h7
    exact each_two hs a b' oa ob ks
  by_cases h8 : k = 8 ∨ k = 9
  · rcases h8 with rfl | rfl
    · exact each_k8 a b' oa ob ks IH
    · exact each_k9 a b' oa ob ks IH
  · exact each_none k a b' oa ob ks (by omega)
mutual
theorem each_all {α : Type} [DecidableEq α] {enc : α → Value} {f g : Nat} {fv : Tree → List α} (hs : Sees enc f g fv) : ∀ T : TS, EachC enc f g fv T
  | .mk k a b oa ob ks => each_of hs k a b oa ob ks (fun u h => each_alls hs ks u h)
theorem each_alls {α : Type} [DecidableEq α] {enc : α → Value} {f g : Nat} {fv : Tree → List α} (hs : Sees enc f g fv) : ∀ (ks : List TS) (u : TS), u ∈ ks → EachC enc f g fv u
  | [], u, h => by cases h
  | v :: vs, u, h => by
    by_cases e : u = v
    · rw [e]; exact each_all hs v
    · exact each_alls hs vs u ((List.mem_cons.1 h).resolve_left e)
end
theorem seesD : Sees encD 16 35 numV := ⟨enters_of Tryz.func35 (by kernel_rfl) rfl, seeD_any⟩
theorem seesT : Sees Value.string 19 40 txtV := ⟨enters_of Tryz.func40 (by kernel_rfl) rfl, seeT_any⟩
end Go.Proofs.YtdkgapapdjefdaaGreatDoor
