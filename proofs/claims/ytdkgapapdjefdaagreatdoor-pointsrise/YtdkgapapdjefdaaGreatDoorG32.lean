/- slices.SortedFunc of numbers: what an iterator gives, rising. -/
import Derived.Test.YtdkgapapdjefdaaGreatDoorG28
import Derived.Test.YtdkgapapdjefdaaGreatDoorG29
import Derived.Test.YtdkgapapdjefdaaGreatDoorG01
import Derived.Shelf.SlSortCmp.NoneTotal
import Derived.Sort.OwnSorted
namespace Go.Proofs.YtdkgapapdjefdaaGreatDoor
open Go.RowKit Go.MapKept Go.Sort

theorem holds_flat {w : World} {g : Nat} {cur : Array Value} {e : TypeId} {F : Array Value} (hb : w.heap[g]? = some (.cells cur e (0, 0))) (ht : cur.toList.take F.size = F.toList) : Holds id w g 0 F := by
  intro j hj
  refine ⟨?_, by simp [World.frozen?, hb]⟩
  have h1 : (cur.toList.take F.size)[j]? = F.toList[j]? := by rw [ht]
  rw [List.getElem?_take_of_lt hj] at h1
  simp only [World.cell?, hb, Nat.zero_add]
  simp only [Option.isSome_none, Bool.false_eq_true, if_false]
  rw [← Array.getElem?_toList, h1]
  simp [hj]
theorem heap_flat {w : World} {g n : Nat} {os : Array Obj} {cur : Array Value} {e : TypeId} {fr : Nat × Nat} (F : Array Value) (hb : w.heap[g]? = some (.cells cur e fr)) :
    (grow (putRow id (Sort.ahead w n) g 0 F) os).heap[g]? = some (.cells (putCells id 0 F cur) e fr) := by
  have hg : g < w.heap.size := (Array.getElem?_eq_some_iff.1 hb).1
  rw [heap_grow_old _ _ (by simpa using hg)]
  simp [putRow, mapBlock, Sort.ahead, Array.getElem?_modify, hb, onCells]
theorem grownBy_flat {w : World} {g n : Nat} {os : Array Obj} (F : Array Value) : w.grownBy (grow (putRow id (Sort.ahead w n) g 0 F) os) (some g) := by
  refine ⟨rfl, rfl, rfl, by simp, fun k hk hne => ?_⟩
  rw [heap_grow_old _ _ (by simpa using hk)]
  have : g ≠ k := fun e => hne (by rw [e])
  simp [putRow, mapBlock, Sort.ahead, Array.getElem?_modify, this]
theorem take_flat (cur F : Array Value) (h : F.size ≤ cur.size) : (putCells id 0 F cur).toList.take F.size = F.toList := by
  apply List.ext_getElem?
  intro j
  by_cases hj : j < F.size
  · rw [List.getElem?_take_of_lt hj, Array.getElem?_toList]
    simp [putCells, hj, show j < cur.size by omega]
  · rw [List.getElem?_take_eq_none (by omega), List.getElem?_eq_none (by simp; omega)]
theorem ownsRow_flat {w : World} {base g cap n m k : Nat} {e : TypeId} {os : Array Obj} {cur F : Array Value} (hl : F.size = m * k) (hbase : base ≤ g) (hb : w.heap[g]? = some (.cells cur e (0, 0)))
    (h1 : m ≤ cap) (h2 : cap ≤ maxLen) (h3 : cur.size = cap * k) :
    (grow (putRow id (Sort.ahead w n) g 0 F) os).ownsRow base e k (.slice (some ⟨g, 0, none⟩) m cap) m F.toList :=
  ⟨by simp [hl], .inr ⟨g, cap, _, rfl, hbase, heap_flat _ hb, h1, h2, by simp [putCells, h3], by rw [← hl]; exact take_flat cur F (by rw [hl, h3]; exact Nat.mul_le_mul_right k h1)⟩⟩

/-- a right number -/
structure RNum where
  p : Int × Int
  ok : Dm.wrongN p.1 p.2 = 0
instance : Inhabited RNum := ⟨⟨(0, 0), by decide⟩⟩
def encR (x : RNum) : List Value := cellsD x.p
def vR (p : Int × Int) : Int := Dm.V p.1 p.2
def cmpR (x y : RNum) : Int := Dm.sgn (vR x.p - vR y.p)

theorem flat_at (enc : RNum → List Value) (hk : ∀ x, (enc x).length = 2) : ∀ (l : List RNum) (t : Nat), t < l.length * 2 → (l.flatMap enc)[t]? = some ((enc l[t / 2]!)[t % 2]!)
  | [], t, h => by simp at h
  | a :: l, t, h => by
    rw [List.flatMap_cons]
    by_cases ht : t < 2
    · rw [List.getElem?_append_left (by rw [hk]; exact ht)]
      have e1 : t / 2 = 0 := by omega
      have e2 : t % 2 = t := by omega
      rw [e1, e2]
      have := hk a
      rw [List.getElem?_eq_getElem (by omega)]
      simp [getElem!_pos (enc a) t (by omega)]
    · rw [List.getElem?_append_right (by rw [hk]; omega), hk, flat_at enc hk l (t - 2) (by simp at h; omega)]
      have e1 : t / 2 = (t - 2) / 2 + 1 := by omega
      have e2 : t % 2 = (t - 2) % 2 := by omega
      rw [e1, e2]
      simp
theorem flatR (l : List RNum) : (flatK encR 2 l.toArray).toList = flatD (l.map (·.p)) := by
  have e : flatD (l.map (·.p)) = l.flatMap encR := by simp [flatD, List.flatMap_map]; rfl
  rw [e]
  apply List.ext_getElem?
  intro t
  by_cases h : t < l.length * 2
  · rw [flat_at encR (fun x => rfl) l t h]
    have := get_flatK encR 2 l.toArray t (by simpa using h)
    rw [Array.getElem?_toList, Array.getElem?_eq_getElem (by simpa using h)]
    rw [getElem!_pos _ t (by simpa using h)] at this
    rw [this]
    simp
  · rw [List.getElem?_eq_none (by simp; omega), List.getElem?_eq_none]
    rw [← e, flatD_len]
    simp
    omega

theorem ltR (x y : RNum) : ltOf cmpR x y = decide (vR x.p < vR y.p) := by
  unfold ltOf cmpR
  have := Dm.sgn_cases (vR x.p - vR y.p)
  congr 1
  apply propext
  omega
theorem swoR : SWO (ltOf cmpR) where
  irrefl x := by rw [ltR]; simp
  trans x y z h1 h2 := by rw [ltR] at *; simp at *; omega
  ntrans x y z h1 h2 := by rw [ltR] at *; simp at *; omega
theorem totR (x y : RNum) (h1 : ltOf cmpR x y = false) (h2 : ltOf cmpR y x = false) : x = y := by
  rw [ltR] at h1 h2
  simp at h1 h2
  obtain ⟨⟨a, b⟩, hx⟩ := x
  obtain ⟨⟨c, d⟩, hy⟩ := y
  have := Dm.V_inj hx hy (show Dm.V a b = Dm.V c d from by simp only [vR] at h1 h2; omega)
  obtain ⟨rfl, rfl⟩ := this
  rfl

/-- numbers, rising -/
def sortN (l : List (Int × Int)) : List (Int × Int) := l.mergeSort (fun x y => decide (vR x ≤ vR y))
theorem sortR (l : List RNum) : (l.mergeSort fun x y => !(ltOf cmpR) y x).map (·.p) = sortN (l.map (·.p)) := by
  refine List.map_mergeSort (fun a _ b _ => ?_)
  rw [ltR]
  by_cases h : vR b.p < vR a.p
  · simp [h]
  · simp [h]; omega
theorem rights (l : List (Int × Int)) (h : ∀ p ∈ l, Dm.wrongN p.1 p.2 = 0) : ∃ k : List RNum, k.map (·.p) = l := by
  induction l with
  | nil => exact ⟨[], rfl⟩
  | cons a l ih =>
    obtain ⟨k, hk⟩ := ih (fun p hp => h p (by simp [hp]))
    exact ⟨⟨a, h a (by simp)⟩ :: k, by simp [hk]⟩

theorem enterCmpNums : ∀ args w, (callFunc 17 args).run Tryz.prog w = .ok (.enter 17 args) w := enters_of Tryz.func17 (by kernel_rfl) rfl
theorem cmpLaysR (blk off size : Nat) (w : World) : CmpLays Tryz.prog 17 #[] encR 2 cmpR blk off size w := by
  intro m os dk _ x y
  refine (cmpNums_ahd x.p.1 x.p.2 y.p.1 y.p.2 _ x.ok y.ok).mono ?_
  rintro e w' ⟨rfl, ha⟩
  exact ⟨rfl, ha.grown⟩

theorem sortFuncD_any (k : List RNum) (gb cap : Nat) (cur : Array Value) (base : Nat) (w : World) (hbase : base ≤ gb) (hgb : w.heap[gb]? = some (.cells cur 24 (0, 0))) (h1 : k.length ≤ cap) (h2 : cap ≤ maxLen) (h3 : cur.size = cap * 2) (h4 : cur.toList.take (k.length * 2) = flatD (k.map (·.p))) (hl : k.length ≤ 1000000000) :
    Calls Tryz.prog 74 #[.slice (some ⟨gb, 0, none⟩) k.length cap, .func (.func 17) #[] #[]] w fun e w' =>
      e = .returned (.tuple #[]) ∧ w'.ownsRow base 24 2 (.slice (some ⟨gb, 0, none⟩) k.length cap) k.length (flatD (sortN (k.map (·.p)))) ∧ w.grownBy w' (some gb) := by
  have hH : HoldsK encR 2 w gb 0 k.toArray := holds_flat hgb (by rw [flatR]; simpa using h4)
  have C := AnyQ.slices_SortFunc_total Tryz.sortD 2 Tryz.isAgg24 Tryz.sizeOf24 encR (fun x => rfl) (fun x v hv => by simp [encR, cellsD] at hv; rcases hv with rfl | rfl <;> rfl) cmpR swoR 17 #[] gb 0 cap k.toArray w enterCmpNums (cmpLaysR _ _ _ w) hH (Array.getElem?_eq_some_iff.1 hgb).1 (by simp; omega) totR
  simp only [List.size_toArray] at C
  refine Calls.mono C ?_
  rintro e w' ⟨rfl, n, os, rfl⟩
  refine ⟨rfl, ?_, grownBy_flat _⟩
  have := ownsRow_flat (n := n) (os := os) (F := flatK encR 2 (k.mergeSort fun x y => !(ltOf cmpR) y x).toArray) (m := k.length) (k := 2) (by simp) hbase hgb h1 h2 h3
  rw [flatR, sortR] at this
  exact this

set_option maxHeartbeats 1000000 in
theorem sortedD_any (n g : Nat) (lb : Array Value) (eg : ∀ args w, (callFunc g args).run Tryz.prog w = .ok (.enter g args) w)
    (S : List (Int × Int) → Prop) (N : Nat) (hN : N ≤ 1000000000) (w : World) (hseq : SeqGives Fence.wide (n + 1) Tryz.prog g lb encD S N w) (hS : ∀ ss, S ss → ss.length ≤ N ∧ ∀ p ∈ ss, Dm.wrongN p.1 p.2 = 0) :
    Calls Tryz.prog 37 #[.func (.func g) #[] lb, .func (.func 17) #[] #[]] w fun e w' => ∃ (v : Value) (ss : List (Int × Int)), e = .returned v ∧ S ss ∧ w'.ownsRow w.heap.size 24 2 v ss.length (flatD (sortN ss)) ∧ (v = .slice none 0 0 ↔ ss = []) ∧ Below w.heap.size w w' := by
  have C := hide (collectD_any n g lb eg S N hN w hseq)
  clear hseq
  go_enter Tryz.func37, Tryz.ntmps37
  go_wp2_with fail
  refine (unhide C).mono ?_
  rintro e W ⟨v, ss, rfl, hs, hrow, hnil, hb⟩
  obtain ⟨k, rfl⟩ := rights ss (hS ss hs).2
  have hkl := (hS _ hs).1
  rcases hrow.2 with ⟨rfl, hz⟩ | ⟨gb, cap, cur, rfl, hbase, hgb, r1, r2, r3, r4⟩
  · have hss : k = [] := by simpa using hz
    subst hss
    have D := hide (AnyF.slices_SortFunc_none Tryz.sortD none 0 (.func (.func 17) #[] #[]) W)
    go_wp2_with fail
    refine (unhide D).mono ?_
    rintro e w' ⟨rfl, rfl⟩
    go_wp2
    go_ret
    exact ⟨_, [], rfl, hs, by simpa [sortN, flatD] using hrow, by simp, hb⟩
  · have hl : (k.map (·.p)).length = k.length := by simp
    rw [hl] at hkl r1 r4
    have D := hide (sortFuncD_any k gb cap cur w.heap.size W hbase hgb r1 r2 r3 r4 (by omega))
    have hnil' := hide hnil
    have hb' := hide hb
    clear hrow hgb r4 hnil
    rw [hl]
    go_wp2_with fail
    refine (unhide D).mono ?_
    rintro e w' ⟨rfl, ho, hg⟩
    go_wp2
    go_ret
    exact ⟨_, k.map (·.p), rfl, hs, by rw [hl]; exact ho, by simpa using unhide hnil', (unhide hb').grown hg (unhide hb').size (fun j hj => by cases hj; exact hbase)⟩
end Go.Proofs.YtdkgapapdjefdaaGreatDoor
