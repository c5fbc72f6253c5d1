/- slices.SortedFunc of texts: what an iterator gives, rising. -/
import Derived.Test.YtdkgapapdjefdaaGreatDoorG28
import Derived.Test.YtdkgapapdjefdaaGreatDoorG32
import Derived.Test.YtdkgapapdjefdaaGreatDoorG31
import Derived.Test.YtdkgapapdjefdaaGreatDoorG03
namespace Go.Proofs.YtdkgapapdjefdaaGreatDoor
open Go.RowKit Go.MapKept Go.Sort

/-- one text ahead of another one -/
def bl (a b : ByteArray) : Bool := Op.bytesLess a.toList b.toList
def cmpT (a b : ByteArray) : Int := Lib.compareBytes a.data.toList b.data.toList
theorem cmp_less : ∀ (a b : List UInt8), Lib.compareBytes a b < 0 ↔ Op.bytesLess a b = true
  | [], [] => by simp [Lib.compareBytes, Op.bytesLess]
  | [], y :: b => by simp [Lib.compareBytes, Op.bytesLess]
  | x :: a, [] => by simp [Lib.compareBytes, Op.bytesLess]
  | x :: a, y :: b => by
    have ih := cmp_less a b
    unfold Lib.compareBytes Op.bytesLess
    by_cases h1 : x < y
    · simp [h1]
    · by_cases h2 : y < x
      · have h3 : ¬ x = y := fun e => by subst e; exact h1 h2
        simp [h1, h2, h3]
      · have h3 : x = y := by
          have a1 := UInt8.le_iff_toNat_le.1 (UInt8.not_lt.1 h1)
          have a2 := UInt8.le_iff_toNat_le.1 (UInt8.not_lt.1 h2)
          exact UInt8.toNat_inj.1 (by omega)
        subst h3
        simp [h1, ih]
theorem ltT (x y : ByteArray) : ltOf cmpT x y = bl x y := by
  unfold ltOf cmpT bl
  rw [ByteArray.toList_eq, ByteArray.toList_eq]
  by_cases h : Op.bytesLess x.data.toList y.data.toList = true
  · rw [h]
    exact decide_eq_true ((cmp_less _ _).2 h)
  · rw [Bool.not_eq_true] at h
    rw [h]
    exact decide_eq_false fun q => by rw [(cmp_less _ _).1 q] at h; cases h
theorem bl_tri (a b : ByteArray) : (bl a b = true ∧ bl b a = false ∧ a ≠ b) ∨ (bl a b = false ∧ bl b a = true ∧ a ≠ b) ∨ (bl a b = false ∧ bl b a = false ∧ a = b) := by
  have h := Dm.less_tri a.toList b.toList
  have e : a.toList = b.toList → a = b := fun q => by rw [ByteArray.toList_eq, ByteArray.toList_eq] at q; exact WideShapes.bytes_inj q
  unfold bl
  rcases h with ⟨h1, h2, h3⟩ | ⟨h1, h2, h3⟩ | ⟨h1, h2, h3⟩
  · exact .inl ⟨h1, h2, fun q => h3 (by rw [q])⟩
  · exact .inr (.inl ⟨h1, h2, fun q => h3 (by rw [q])⟩)
  · exact .inr (.inr ⟨h1, h2, e h3⟩)
theorem bl_trans (a b c : ByteArray) (h1 : bl a b = true) (h2 : bl b c = true) : bl a c = true := Dm.less_trans _ _ _ h1 h2
theorem bl_irr (a : ByteArray) : bl a a = false := Dm.less_irr _
theorem swoT : SWO (ltOf cmpT) where
  irrefl x := by rw [ltT]; exact bl_irr x
  trans x y z h1 h2 := by rw [ltT] at *; exact bl_trans x y z h1 h2
  ntrans x y z h1 h2 := by
    rw [ltT] at *
    rcases bl_tri x z with ⟨h, _⟩ | ⟨h, _⟩ | ⟨h, _⟩
    · rcases bl_tri y z with ⟨g, _⟩ | ⟨_, g, _⟩ | ⟨_, _, g⟩
      · rw [g] at h2; cases h2
      · rw [bl_trans x z y h g] at h1; cases h1
      · subst g; rw [h] at h1; cases h1
    · exact h
    · exact h
theorem totT (x y : ByteArray) (h1 : ltOf cmpT x y = false) (h2 : ltOf cmpT y x = false) : x = y := by
  rw [ltT] at h1 h2
  rcases bl_tri x y with ⟨h, _⟩ | ⟨_, h, _⟩ | ⟨_, _, h⟩
  · rw [h] at h1; cases h1
  · rw [h] at h2; cases h2
  · exact h

/-- texts, rising -/
def sortT (l : List ByteArray) : List ByteArray := l.mergeSort (fun x y => !bl y x)

theorem putRow_id (w : World) (blk off : Nat) (l : List ByteArray) : putRow Value.string w blk off l.toArray = putRow id w blk off (l.map Value.string).toArray := by
  unfold putRow
  congr 1
  funext cur
  unfold putCells
  congr 1
  funext k x
  simp only [List.size_toArray, List.length_map]
  split
  · rename_i h
    have hk : k - off < l.length := by omega
    simp [hk]
  · rfl

theorem enterCompare : ∀ args w, (callFunc 20 args).run Tryz.prog w = .ok (.enter 20 args) w := enters_of Tryz.func20 (by kernel_rfl) rfl
theorem cmpLaysT (blk off size : Nat) (w : World) : CmpLays1 Tryz.prog 20 #[] Value.string cmpT blk off size w := by
  intro m os dk _ x y
  refine (Any.strings_Compare Tryz.lays106 x y _).mono ?_
  rintro e w' ⟨rfl, rfl⟩
  exact ⟨rfl, 0, #[], by simp [World.drewN]⟩

theorem holds_T {w : World} {g : Nat} {cur : Array Value} {e : TypeId} {l : List ByteArray} (hb : w.heap[g]? = some (.cells cur e (0, 0))) (ht : cur.toList.take l.length = l.map Value.string) : Holds Value.string w g 0 l.toArray := by
  intro j hj
  have := holds_flat (F := (l.map Value.string).toArray) hb (by simpa using ht) j (by simpa using hj)
  have hj' : j < l.length := by simpa using hj
  simpa [hj'] using this

theorem sortFuncT_any (k : List ByteArray) (gb cap : Nat) (cur : Array Value) (base : Nat) (w : World) (hbase : base ≤ gb) (hgb : w.heap[gb]? = some (.cells cur 9 (0, 0))) (h1 : k.length ≤ cap) (h2 : cap ≤ maxLen) (h3 : cur.size = cap * 1) (h4 : cur.toList.take (k.length * 1) = k.map Value.string) (hl : k.length ≤ 1000000000) :
    Calls Tryz.prog 80 #[.slice (some ⟨gb, 0, none⟩) k.length cap, .func (.func 20) #[] #[]] w fun e w' =>
      e = .returned (.tuple #[]) ∧ w'.ownsRow base 9 1 (.slice (some ⟨gb, 0, none⟩) k.length cap) k.length ((sortT k).map Value.string) ∧ w.grownBy w' (some gb) := by
  have hH : Holds Value.string w gb 0 k.toArray := holds_T hgb (by simpa using h4)
  have C := Any.slices_SortFunc_total Tryz.sortT Value.string (fun x => rfl) cmpT swoT 20 #[] gb 0 cap k.toArray w enterCompare (cmpLaysT _ _ _ w) hH (Array.getElem?_eq_some_iff.1 hgb).1 (by simp; omega) totT
  simp only [List.size_toArray] at C
  refine Calls.mono C ?_
  rintro e w' ⟨rfl, n, os, rfl⟩
  have es : (k.mergeSort fun x y => !(ltOf cmpT) y x) = sortT k := by simp only [ltT, sortT]
  rw [es]
  unfold sortWorld
  rw [putRow_id]
  refine ⟨rfl, ?_, grownBy_flat _⟩
  have := ownsRow_flat (n := n) (os := os) (F := ((sortT k).map Value.string).toArray) (m := k.length) (k := 1) (by simp [sortT]) hbase hgb h1 h2 h3
  simpa using this

set_option maxHeartbeats 1000000 in
theorem sortedT_any (n g : Nat) (lb : Array Value) (eg : ∀ args w, (callFunc g args).run Tryz.prog w = .ok (.enter g args) w)
    (S : List ByteArray → Prop) (N : Nat) (hN : N ≤ 1000000000) (w : World) (hseq : SeqGives Fence.wide (n + 1) Tryz.prog g lb Value.string S N w) (hS : ∀ ss, S ss → ss.length ≤ N) :
    Calls Tryz.prog 41 #[.func (.func g) #[] lb, .func (.func 20) #[] #[]] w fun e w' => ∃ (v : Value) (ss : List ByteArray), e = .returned v ∧ S ss ∧ w'.ownsRow w.heap.size 9 1 v ss.length ((sortT ss).map Value.string) ∧ (v = .slice none 0 0 ↔ ss = []) ∧ Below w.heap.size w w' := by
  have C := hide (collectT_any n g lb eg S N hN w hseq)
  clear hseq
  go_enter Tryz.func41, Tryz.ntmps41
  go_wp2_with fail
  refine (unhide C).mono ?_
  rintro e W ⟨v, k, rfl, hs, hrow, hnil, hb⟩
  have hkl := hS _ hs
  rcases hrow.2 with ⟨rfl, hz⟩ | ⟨gb, cap, cur, rfl, hbase, hgb, r1, r2, r3, r4⟩
  · have hss : k = [] := by simpa using hz
    subst hss
    have D := hide (AnyF.slices_SortFunc_none { Tryz.sortT with } none 0 (.func (.func 20) #[] #[]) W)
    go_wp2_with fail
    refine (unhide D).mono ?_
    rintro e w' ⟨rfl, rfl⟩
    go_wp2
    go_ret
    exact ⟨_, [], rfl, hs, by simpa [sortT] using hrow, by simp, hb⟩
  · have D := hide (sortFuncT_any k gb cap cur w.heap.size W hbase hgb r1 r2 r3 r4 (by omega))
    have hnil' := hide hnil
    have hb' := hide hb
    clear hrow hgb r4 hnil
    go_wp2_with fail
    refine (unhide D).mono ?_
    rintro e w' ⟨rfl, ho, hg⟩
    go_wp2
    go_ret
    exact ⟨_, k, rfl, hs, ho, by simpa using unhide hnil', (unhide hb').grown hg (unhide hb').size (fun j hj => by cases hj; exact hbase)⟩
end Go.Proofs.YtdkgapapdjefdaaGreatDoor
