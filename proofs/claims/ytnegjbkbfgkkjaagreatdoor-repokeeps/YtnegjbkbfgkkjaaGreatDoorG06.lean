/- Walks: what is asked of a shape. -/
import Derived.Test.YtnegjbkbfgkkjaaGreatDoorG05
import Derived.WalkKit
import Derived.WalkSpells
import Derived.WalkLawsBesides
import Derived.Deep.QuietTactic
import Derived.Deep.RegionWith
import Derived.BigQuiet
import Derived.RegionTactic
import Derived.ChangeAlike
import Derived.Outline
import Derived.Test.YtnegjbkbfgkkjaaGreatDoorG02
import Derived.Carry
import Derived.MapKept
import Derived.MapFrom
namespace Go.Proofs.YtnegjbkbfgkkjaaGreatDoor
open Go.RowKit

abbrev shn (n k : Int) : Value := .agg #[.int .i64 n, .int .i64 k]
abbrev sh (a : Sp) : Value := shn (a.n : Int) a.k

/-- a block of two cells that is carried along -/
structure Bx2 (w : World) (b : Nat) (u v : Value) : Prop where
  low : b < w.heap.size
  at0 : w.cell? ⟨b, 0, none⟩ = some u
  at1 : w.cell? ⟨b, 1, none⟩ = some v
  th0 : w.frozen? ⟨b, 0, none⟩ = false
  th1 : w.frozen? ⟨b, 1, none⟩ = false
theorem Bx2.keep {w w' : World} {b : Nat} {u v : Value} (h : Bx2 w b u v) {B : Nat} (hb : Below B w w') (l : b < B) : Bx2 w' b u v :=
  ⟨Nat.lt_of_lt_of_le h.low hb.size, (hb.cell (p := ⟨b, 0, none⟩) l).trans h.at0, (hb.cell (p := ⟨b, 1, none⟩) l).trans h.at1, (hb.frozen (p := ⟨b, 0, none⟩) l).trans h.th0, (hb.frozen (p := ⟨b, 1, none⟩) l).trans h.th1⟩
theorem Bx2.new (w : World) (t : TypeId) (u v : Value) : Bx2 (w.alloc (.cells #[u, v] t)) w.heap.size u v :=
  ⟨by simp, by go_simp, by go_simp, by go_simp, by go_simp⟩

theorem Bx2.put {w : World} {b : Nat} {u v : Value} (h : Bx2 w b u v) (u' v' : Value) : Bx2 ((w.setCell ⟨b, 0, none⟩ u').setCell ⟨b, 1, none⟩ v') b u' v' := by
  have l := h.low
  have a0 := h.at0
  have a1 := h.at1
  have t0 := h.th0
  have t1 := h.th1
  exact ⟨by simpa using l, by go_simp, by go_simp, by go_simp, by go_simp⟩

theorem Bx2.other {w : World} {b q : Nat} {u v : Value} (h : Bx2 w b u v) (ne : b ≠ q) (o : Nat) (x : Value) : Bx2 (w.setCell ⟨q, o, none⟩ x) b u v := by
  have l := h.low
  have a0 := h.at0
  have a1 := h.at1
  have t0 := h.th0
  have t1 := h.th1
  have ne' : ¬ q = b := fun e => ne e.symm
  exact ⟨by simpa using l, by go_simp, by go_simp, by go_simp, by go_simp⟩

set_option maxHeartbeats 1000000 in
theorem plain_any (k : Int) (w : World) :
    Calls Tryz.prog 143 #[.int .i64 k] w fun e w' => e = .returned (shn 0 k) ∧ Below w.heap.size w w' := by
  go_enter Tryz.func143, Tryz.ntmps143
  go_wp2_with fail
  exact bodyPost_ret (v := shn 0 k) (by simp [results, Tryz.results143, go_sem]) rfl ⟨rfl, (Below.refl _ _).alloc (Nat.le_refl _) _⟩

set_option maxHeartbeats 1000000 in
theorem is_any (a : Sp) (k : Int) (w : World) (hk : k ≠ 5) :
    Calls Tryz.prog 117 #[sh a, .int .i64 k] w fun e w' => e = .returned (.bool (decide (a.n = 0 ∧ a.k = k))) ∧ Below w.heap.size w w' := by
  obtain ⟨n, q⟩ := a
  obtain ⟨z, hz, hz2⟩ : ∃ z : Int, z = (n : Int) ∧ (n = 0 ↔ z = 0) := ⟨_, rfl, by omega⟩
  show Calls Tryz.prog 117 #[shn (n : Int) q, .int .i64 k] w fun e w' => e = .returned (.bool (decide (n = 0 ∧ q = k))) ∧ Below w.heap.size w w'
  rw [← hz]
  simp only [hz2]
  clear hz hz2
  go_enter Tryz.func117, Tryz.ntmps117
  go_wp2_with fail
  have X0 := Bx2.new w 158 (.int .i64 z) (.int .i64 q)
  have B0 : Below w.heap.size w (w.alloc (.cells #[.int .i64 z, .int .i64 q] 158)) := (Below.refl _ _).alloc (Nat.le_refl _) _
  generalize w.alloc (.cells #[.int .i64 z, .int .i64 q] 158) = w0 at X0 B0 ⊢
  have c0 := X0.at0
  have c1 := X0.at1
  have X1 := hide X0
  have B1 := hide B0
  clear X0 B0
  by_cases h1 : z = 0
  · subst h1
    by_cases h2 : q = k
    · subst h2
      go_region_with (go_at_call 143; refine (plain_any _ _).mono ?_; rintro e w1 ⟨rfl, hb⟩; replace hb : Below w0.heap.size w0 w1 := Below.trans (by repeat (first | exact Below.refl _ _ | apply Below.drew)) hb; have X2 := (unhide X1).keep hb (unhide X1).low; have d0 := X2.at0; have d1 := X2.at1; clear X2)
      all_goals
        have HB := hide hb
        clear hb
        go_wp2
        go_ret
        exact ⟨by simp , by repeat (first | exact (unhide B1).trans ((unhide HB).mono (unhide B1).size) | apply Below.drew)⟩
    · have h3 : (q == k) = false := by simpa using h2
      go_region_with (go_at_call 143; refine (plain_any _ _).mono ?_; rintro e w1 ⟨rfl, hb⟩; replace hb : Below w0.heap.size w0 w1 := Below.trans (by repeat (first | exact Below.refl _ _ | apply Below.drew)) hb; have X2 := (unhide X1).keep hb (unhide X1).low; have d0 := X2.at0; have d1 := X2.at1; clear X2)
      all_goals
        have HB := hide hb
        clear hb
        go_wp2
        go_ret
        exact ⟨by simp, by repeat (first | exact (unhide B1).trans ((unhide HB).mono (unhide B1).size) | apply Below.drew)⟩
  · have h3 : (z == 0) = false := by simpa using h1
    go_region_with (go_at_call 143; refine (plain_any _ _).mono ?_; rintro e w1 ⟨rfl, hb⟩; replace hb : Below w0.heap.size w0 w1 := Below.trans (by repeat (first | exact Below.refl _ _ | apply Below.drew)) hb; have X2 := (unhide X1).keep hb (unhide X1).low; have d0 := X2.at0; have d1 := X2.at1; clear X2)
    all_goals
      have HB := hide hb
      clear hb
      go_wp2
      go_ret
      exact ⟨by rw [show decide (z = 0 ∧ q = k) = false by simp [h1]]; rfl, by repeat (first | exact (unhide B1).trans ((unhide HB).mono (unhide B1).size) | apply Below.drew)⟩
end Go.Proofs.YtnegjbkbfgkkjaaGreatDoor

/- All but one block is as it was; maps whose entries are known. -/
namespace Go.Proofs.YtnegjbkbfgkkjaaGreatDoor
open Go.RowKit Go.MapKept

theorem Bx2.but {p : Nat} {w w' : World} {b : Nat} {u v : Value} (h : Bx2 w b u v) (hb : But p w w') (ne : b ≠ p) : Bx2 w' b u v :=
  ⟨Nat.lt_of_lt_of_le h.low hb.size, (hb.cell (q := ⟨b, 0, none⟩) h.low ne).trans h.at0, (hb.cell (q := ⟨b, 1, none⟩) h.low ne).trans h.at1, (hb.frozen (q := ⟨b, 0, none⟩) h.low ne).trans h.th0, (hb.frozen (q := ⟨b, 1, none⟩) h.low ne).trans h.th1⟩

/-- a value's six cells in a block -/
structure V6 (w : World) (b : Nat) (v0 v1 v2 v3 v4 v5 : Value) : Prop where
  low : b < w.heap.size
  tell : w.cell? ⟨b, 0, none⟩ = some v0 ∧ w.cell? ⟨b, 1, none⟩ = some v1 ∧ w.cell? ⟨b, 2, none⟩ = some v2 ∧ w.cell? ⟨b, 3, none⟩ = some v3 ∧ w.cell? ⟨b, 4, none⟩ = some v4 ∧ w.cell? ⟨b, 5, none⟩ = some v5
theorem V6.keep {w w' : World} {b : Nat} {v0 v1 v2 v3 v4 v5 : Value} (h : V6 w b v0 v1 v2 v3 v4 v5) {B : Nat} (hb : Below B w w') (l : b < B) : V6 w' b v0 v1 v2 v3 v4 v5 := by
  have c : ∀ o, w'.cell? ⟨b, o, none⟩ = w.cell? ⟨b, o, none⟩ := fun o => hb.cell (p := ⟨b, o, none⟩) l
  refine ⟨Nat.lt_of_lt_of_le h.low hb.size, ?_⟩
  simp only [c]
  exact h.tell
theorem V6.new (w : World) (t : TypeId) (v0 v1 v2 v3 v4 v5 : Value) : V6 (w.alloc (.cells #[v0, v1, v2, v3, v4, v5] t)) w.heap.size v0 v1 v2 v3 v4 v5 := ⟨by simp, by go_simp, by go_simp, by go_simp, by go_simp, by go_simp, by go_simp⟩

/-- a map whose entries are known -/
structure MapAt (b : Nat) (es : List MapEntry) (c : Nat) (w : World) : Prop where
  low : b < w.heap.size
  map : w.heap[b]? = some (.map es.toArray c)
theorem MapAt.new (w : World) : MapAt w.heap.size [] 0 (w.alloc (.map #[] 0)) := ⟨by simp, by show (w.heap.push _)[w.heap.size]? = _; simp⟩
theorem MapAt.keep {b : Nat} {es : List MapEntry} {c : Nat} {w w' : World} (h : MapAt b es c w) (hb : Below w.heap.size w w') : MapAt b es c w' :=
  ⟨Nat.lt_of_lt_of_le h.low hb.size, (hb.block b h.low).trans h.map⟩
section
variable {b : Nat} {es : List MapEntry} {c : Nat} {w : World} {t kt et : TypeId} {d : TypeDesc} {key v : Value} {o : Oper} {a : Act} {K : Act → World → Prop} {Q : Exit → Act → World → Prop}
theorem MapAt.ins (h : MapAt b es c w) (hm : Tryz.prog.underlying t = some (.map kt et)) (hd : Tryz.prog.underlying kt = some d) (hk : IsKey d key) (hf : Instr.findNow d key es 0 = some none) (v : Value) :
    ∃ w2, (Instr.mapUpdate t (.map (some b)) key v).run Tryz.prog w = .ok () w2 ∧ MapAt b (es ++ [⟨key, v, c⟩]) (c + 1) w2 ∧ But b w w2 := by
  have l := h.low
  have hf' : Instr.findNow d key es.toArray.toList 0 = some none := hf
  refine ⟨{ w with heap := w.heap.setIfInBounds b (.map (es.toArray.push ⟨key, v, c⟩) (c + 1)) }, by simp [Instr.mapUpdate, run_underlying hm, MapKept.run_getObj_map h.map, run_checkKey hd hk, run_findKey hd hf, MapKept.run_setObj_map _ h.map, Result.andThen], ⟨by simpa using l, by simp [l]⟩, rfl, rfl, rfl, by simp, fun k _ hne => ?_⟩
  have hne' : ¬ b = k := fun e => hne e.symm
  simp only [Array.getElem?_setIfInBounds, if_neg hne']
theorem MapAt.look (h : MapAt b es c w) (hm : Tryz.prog.underlying t = some (.map kt et)) (hd : Tryz.prog.underlying kt = some d) (hk : IsKey d key) {i : Nat} (hf : Instr.findNow d key es 0 = some (some (i, v))) :
    (Instr.lookup t (.map (some b)) key false).run Tryz.prog w = .ok v w := by
  simp [Instr.lookup, run_underlying hm, MapKept.run_getObj_map h.map, run_checkKey hd hk, run_findKey hd hf, Result.andThen]
end
end Go.Proofs.YtnegjbkbfgkkjaaGreatDoor

/- Walks: shapes peeled, what fits, what is joined. -/
namespace Go.Proofs.YtnegjbkbfgkkjaaGreatDoor
open Go.RowKit

set_option maxHeartbeats 2000000 in
theorem peeled_any (a b : Sp) (w : World) (ha : a.n ≤ 100000) (hb : b.n ≤ 100000) :
    Calls Tryz.prog 116 #[sh a, sh b] w fun e w' => e = .returned (.tuple #[sh ⟨a.n - min a.n b.n, a.k⟩, sh ⟨b.n - min a.n b.n, b.k⟩, .int .i64 ((min a.n b.n : Nat) : Int)]) ∧ Below w.heap.size w w' := by
  obtain ⟨n, k⟩ := a
  obtain ⟨m, l⟩ := b
  simp only at ha hb
  have B : ∀ o1 o2 o3 o4, Below w.heap.size w ((((w.alloc o1).alloc o2).alloc o3).alloc o4) := fun o1 o2 o3 o4 => ((((Below.refl _ _).alloc (Nat.le_refl _) _).alloc (by simp) _).alloc (by simp; omega) _).alloc (by simp; omega) _
  have HB := hide B
  clear B
  go_enter Tryz.func116, Tryz.ntmps116
  go_wp2_with fail
  all_goals go_region
  · rename_i h
    go_wp2
    refine bodyPost_ret (v := .tuple #[sh ⟨n - min n m, k⟩, sh ⟨m - min n m, l⟩, .int .i64 ((min n m : Nat) : Int)]) ?_ rfl ⟨rfl, ?_⟩
    · rw [show min n m = m by omega]
      simp [results, Tryz.results116, go_sem]
      omega
    · exact (unhide HB _ _ _ _).drew
  · rename_i h
    go_wp2
    refine bodyPost_ret (v := .tuple #[sh ⟨n - min n m, k⟩, sh ⟨m - min n m, l⟩, .int .i64 ((min n m : Nat) : Int)]) ?_ rfl ⟨rfl, ?_⟩
    · rw [show min n m = n by omega]
      simp [results, Tryz.results116, go_sem]
      omega
    · exact (unhide HB _ _ _ _).drew

theorem below_via {w0 wp w1 : World} (h : Below w0.heap.size w0 wp) (k : Below wp.heap.size wp w1) : Below w0.heap.size w0 w1 := h.trans (k.mono h.size)

def fit (a b : Sp) : Value := .bool (decide (a.Fits b))
set_option maxHeartbeats 2000000 in
theorem fits_any (a b : Sp) (w : World) (ha : a.n ≤ 100000) (hb : b.n ≤ 100000) :
    Calls Tryz.prog 87 #[sh a, sh b] w fun e w' => e = .returned (fit a b) ∧ Below w.heap.size w w' := by
  have P := hide (fun wx => peeled_any a b wx ha hb)
  have hF : a.Fits b ↔ ((a.n - min a.n b.n = 0 ∧ a.k = 1) ∨ (b.n - min a.n b.n = 0 ∧ b.k = 6) ∨ (((a.n - min a.n b.n : Nat) : Int) = ((b.n - min a.n b.n : Nat) : Int) ∧ a.k = b.k)) := by
    unfold Sp.Fits; omega
  obtain ⟨a', hA⟩ : ∃ a' : Sp, a' = ⟨a.n - min a.n b.n, a.k⟩ := ⟨_, rfl⟩
  obtain ⟨b', hB⟩ : ∃ b' : Sp, b' = ⟨b.n - min a.n b.n, b.k⟩ := ⟨_, rfl⟩
  rw [← hA, ← hB] at P
  have HF : Hid (a.Fits b ↔ ((a'.n = 0 ∧ a'.k = 1) ∨ (b'.n = 0 ∧ b'.k = 6) ∨ ((a'.n : Int) = (b'.n : Int) ∧ a'.k = b'.k))) := hide (by rw [hA, hB]; exact hF)
  clear hA hB hF
  have I1 := hide (fun wx => is_any a' 1 wx (by decide))
  have I2 := hide (fun wx => is_any b' 6 wx (by decide))
  go_enter Tryz.func87, Tryz.ntmps87
  go_wp2_with fail
  refine (unhide P _).mono ?_
  rintro e w1 ⟨rfl, hb1⟩
  have B1 : Below w.heap.size w w1 := below_via (((Below.refl _ _).alloc (Nat.le_refl _) _).alloc (by simp) _) hb1
  clear hb1 P
  have HB := hide B1
  have hz := B1.size
  clear B1
  go_wp2_with fail
  refine (unhide I1 _).mono ?_
  rintro e w2 ⟨rfl, hb2⟩
  have X5 := ((Bx2.new w1 158 (.int .i64 a'.n) (.int .i64 a'.k)).keep ((Below.refl _ _).alloc (Nat.le_refl _) (.cells #[.int .i64 b'.n, .int .i64 b'.k] 158)) (by simp)).keep hb2 (by simp; omega)
  have X6 := (Bx2.new (w1.alloc (.cells #[.int .i64 a'.n, .int .i64 a'.k] 158)) 158 (.int .i64 b'.n) (.int .i64 b'.k)).keep hb2 (by simp)
  have B2 := hide (below_via (unhide HB) (below_via (((Below.refl _ _).alloc (Nat.le_refl _) _).alloc (by simp) _) hb2))
  simp only [World.size_alloc] at X6
  clear hb2 HB
  by_cases c1 : a'.n = 0 ∧ a'.k = 1
  · have R : fit a b = .bool true := by unfold fit; rw [decide_eq_true ((unhide HF).2 (Or.inl c1))]
    have HR := hide R
    clear R
    rw [decide_eq_true c1]
    clear HF I1 I2 X5 X6
    go_wp2
    go_ret
    exact ⟨by rw [unhide HR]; rfl, unhide B2⟩
  · rw [decide_eq_false c1]
    have Y5 := hide X5
    have Y6 := hide X6
    have e0 := X6.at0
    have e1 := X6.at1
    clear X5 X6
    go_wp2_with fail
    refine (unhide I2 _).mono ?_
    rintro e w3 ⟨rfl, hb3⟩
    have X5 := (unhide Y5).keep hb3 (unhide Y5).low
    have X6 := (unhide Y6).keep hb3 (unhide Y6).low
    have B3 := hide (below_via (unhide B2) hb3)
    clear hb3 B2 Y5 Y6 e0 e1
    by_cases c2 : b'.n = 0 ∧ b'.k = 6
    · have R : fit a b = .bool true := by unfold fit; rw [decide_eq_true ((unhide HF).2 (Or.inr (Or.inl c2)))]
      have HR := hide R
      clear R
      rw [decide_eq_true c2]
      clear HF I1 I2 X5 X6
      go_wp2
      go_ret
      exact ⟨by rw [unhide HR]; rfl, unhide B3⟩
    · rw [decide_eq_false c2]
      have f0 := X5.at0
      have f1 := X5.at1
      have e0 := X6.at0
      have e1 := X6.at1
      clear X5 X6 I1 I2
      by_cases h1 : (a'.n : Int) = (b'.n : Int)
      · by_cases h2 : a'.k = b'.k
        · have R : fit a b = .bool true := by unfold fit; rw [decide_eq_true ((unhide HF).2 (Or.inr (Or.inr ⟨h1, h2⟩)))]
          have HR := hide R
          clear R
          clear HF
          rw [← h1] at e0
          rw [← h2] at e1
          go_wp2
          go_ret
          exact ⟨by rw [unhide HR]; rfl, unhide B3⟩
        · have R : fit a b = .bool false := by unfold fit; rw [decide_eq_false (fun h => by rcases (unhide HF).1 h with h | h | h; exact c1 h; exact c2 h; exact h2 h.2)]
          have HR := hide R
          clear R
          clear HF c1 c2
          have h3 : (a'.k == b'.k) = false := by simpa using h2
          rw [← h1] at e0
          go_wp2
          go_ret
          exact ⟨by rw [unhide HR]; rfl, unhide B3⟩
      · have R : fit a b = .bool false := by unfold fit; rw [decide_eq_false (fun h => by rcases (unhide HF).1 h with h | h | h; exact c1 h; exact c2 h; exact h1 h.1)]
        have HR := hide R
        clear R
        clear HF c1 c2
        have h3 : ((a'.n : Int) == (b'.n : Int)) = false := by simpa using h1
        go_wp2
        go_ret
        exact ⟨by rw [unhide HR]; rfl, unhide B3⟩
end Go.Proofs.YtnegjbkbfgkkjaaGreatDoor

/- Maps with texts for keys, as functions. -/
namespace Go.Proofs.YtnegjbkbfgkkjaaGreatDoor
open Go.RowKit Go.MapKept

/-- a map from texts in block b, as a function -/
structure MapF (b : Nat) (f : ByteArray → Option Value) (w : World) : Prop where
  low : b < w.heap.size
  map : ∃ es c, w.heap[b]? = some (.map es c) ∧ Stamped es c ∧ (∀ x ∈ es.toList, IsKey .string x.key) ∧ ∀ s v, f s = some v ↔ ∃ e ∈ es.toList, e.key = .string s ∧ e.val = v
theorem MapF.new (w : World) : MapF w.heap.size (fun _ => none) (w.alloc (.map #[] 0)) :=
  ⟨by simp, #[], 0, by show (w.heap.push _)[w.heap.size]? = _; simp, stamped_empty 0, by simp, by simp⟩
theorem MapF.keep {b : Nat} {f : ByteArray → Option Value} {w w' : World} (h : MapF b f w) (hb : Below w.heap.size w w') : MapF b f w' := by
  obtain ⟨es, c, h1, h2⟩ := h.map
  exact ⟨Nat.lt_of_lt_of_le h.low hb.size, es, c, (hb.block b h.low).trans h1, h2⟩
theorem MapF.but {b p : Nat} {f : ByteArray → Option Value} {w w' : World} (h : MapF b f w) (hb : But p w w') (ne : b ≠ p) : MapF b f w' := by
  obtain ⟨es, c, h1, h2⟩ := h.map
  exact ⟨Nat.lt_of_lt_of_le h.low hb.size, es, c, (hb.block b h.low ne).trans h1, h2⟩
def updV (f : ByteArray → Option Value) (s : ByteArray) (v : Option Value) : ByteArray → Option Value := fun x => if x = s then v else f x

theorem setBut {b : Nat} {w : World} (o : Obj) : But b w { w with heap := w.heap.setIfInBounds b o } := by
  refine ⟨rfl, rfl, rfl, by simp, fun k _ hne => ?_⟩
  have hne' : ¬ b = k := fun e => hne e.symm
  simp only [Array.getElem?_setIfInBounds, if_neg hne']
theorem key_at {es : Array MapEntry} {c : Nat} (hs : Stamped es c) {i j : Nat} {e e' : MapEntry} (hi : es[i]? = some e) (hj : es[j]? = some e') (hk : e.key = e'.key) : i = j := by
  have hn := hs.2.2
  have li : i < (es.toList.map (·.key)).length := by simpa using (Array.getElem?_eq_some_iff.1 hi).1
  have q : (es.toList.map (·.key))[i]? = (es.toList.map (·.key))[j]? := by simp [hi, hj, hk]
  exact (List.getElem?_inj li hn).1 q

section
variable {b : Nat} {f : ByteArray → Option Value} {w : World} {t kt et : TypeId}
theorem MapF.put (h : MapF b f w) (hm : Tryz.prog.underlying t = some (.map kt et)) (hd : Tryz.prog.underlying kt = some .string) (s : ByteArray) (v : Value) :
    ∃ w2, (Instr.mapUpdate t (.map (some b)) (.string s) v).run Tryz.prog w = .ok () w2 ∧ MapF b (updV f s (some v)) w2 ∧ But b w w2 := by
  obtain ⟨es, c, hb, hst, hks, hf⟩ := h.map
  have l := h.low
  have hk : IsKey .string (.string s) := trivial
  rcases findNow_spec hk es.toList 0 hks with ⟨h1, hno⟩ | ⟨j, e, h1, h2, h3⟩
  · refine ⟨{ w with heap := w.heap.setIfInBounds b (.map (es.push ⟨.string s, v, c⟩) (c + 1)) }, by simp [Instr.mapUpdate, run_underlying hm, MapKept.run_getObj_map hb, run_checkKey hd hk, run_findKey hd h1, MapKept.run_setObj_map _ hb, Result.andThen], ⟨by simpa using l, es.push ⟨.string s, v, c⟩, c + 1, by simp [l], stamped_push hst hno, ?_, ?_⟩, setBut _⟩
    · intro x hx
      simp only [Array.toList_push, List.mem_append, List.mem_singleton] at hx
      rcases hx with hx | rfl
      · exact hks x hx
      · exact hk
    · intro s' v'
      unfold updV
      simp only [Array.toList_push, List.mem_append, List.mem_singleton]
      by_cases hs : s' = s
      · subst hs
        rw [if_pos rfl]
        constructor
        · intro q
          cases q
          exact ⟨_, Or.inr rfl, rfl, rfl⟩
        · rintro ⟨x, hx | rfl, q1, q2⟩
          · exact absurd q1 (hno x hx)
          · rw [← q2]
      · rw [if_neg hs, hf]
        constructor
        · rintro ⟨x, hx, q⟩
          exact ⟨x, Or.inl hx, q⟩
        · rintro ⟨x, hx | rfl, q1, q2⟩
          · exact ⟨x, hx, q1, q2⟩
          · exact absurd (by simpa using q1.symm) hs
  · have hj : es[j]? = some e := by simpa using h2
    have hkey : ∀ e', es[j]? = some e' → ({ e' with key := .string s, val := v } : MapEntry).key = e'.key := fun e' he' => by rw [hj] at he'; cases he'; exact h3.symm
    refine ⟨{ w with heap := w.heap.setIfInBounds b (.map (es.modify j fun e => { e with key := .string s, val := v }) c) }, by simp [Instr.mapUpdate, run_underlying hm, MapKept.run_getObj_map hb, run_checkKey hd hk, run_findKey hd h1, hj, h3, run_keyThatStays hk, MapKept.run_setObj_map _ hb, Result.andThen], ⟨by simpa using l, es.modify j fun e => { e with key := .string s, val := v }, c, by simp [l], stamped_modify hst _ _ (fun _ _ => rfl) (fun e' _ he' => hkey e' he'), isKey_modify hks _ _ hkey, ?_⟩, setBut _⟩
    intro s' v'
    unfold updV
    have hmem : ∀ x, x ∈ (es.modify j fun e => { e with key := .string s, val := v }).toList ↔ (x = { e with key := .string s, val := v }) ∨ ∃ i, i ≠ j ∧ es[i]? = some x := by
      intro x
      rw [Array.mem_toList_iff, Array.mem_iff_getElem?]
      constructor
      · rintro ⟨i, hi⟩
        rw [Array.getElem?_modify] at hi
        by_cases hij : j = i
        · subst hij
          rw [if_pos rfl, hj] at hi
          exact Or.inl (by simpa using hi.symm)
        · rw [if_neg hij] at hi
          exact Or.inr ⟨i, fun q => hij q.symm, hi⟩
      · rintro (rfl | ⟨i, hij, hi⟩)
        · exact ⟨j, by rw [Array.getElem?_modify, if_pos rfl, hj]; rfl⟩
        · exact ⟨i, by rw [Array.getElem?_modify, if_neg (fun q => hij q.symm), hi]⟩
    by_cases hs : s' = s
    · subst hs
      rw [if_pos rfl]
      constructor
      · intro q
        cases q
        exact ⟨_, (hmem _).2 (Or.inl rfl), rfl, rfl⟩
      · rintro ⟨x, hx, q1, q2⟩
        rcases (hmem x).1 hx with rfl | ⟨i, hij, hi⟩
        · rw [← q2]
        · exact absurd (key_at hst hi hj (q1.trans h3.symm)) hij
    · rw [if_neg hs, hf]
      constructor
      · rintro ⟨x, hx, q1, q2⟩
        obtain ⟨i, hi⟩ := Array.mem_iff_getElem?.1 (Array.mem_toList_iff.1 hx)
        refine ⟨x, (hmem x).2 (Or.inr ⟨i, ?_, hi⟩), q1, q2⟩
        rintro rfl
        rw [hj] at hi
        cases hi
        rw [h3] at q1
        exact hs (by simpa using q1.symm)
      · rintro ⟨x, hx, q1, q2⟩
        rcases (hmem x).1 hx with rfl | ⟨i, hij, hi⟩
        · exact absurd (by simpa using q1.symm) hs
        · exact ⟨x, Array.mem_toList_iff.2 (Array.mem_iff_getElem?.2 ⟨i, hi⟩), q1, q2⟩
theorem MapF.found (h : MapF b f w) {s : ByteArray} {v : Value} (hf : f s = some v) : ∃ es c i, w.heap[b]? = some (.map es c) ∧ Instr.findNow .string (.string s) es.toList 0 = some (some (i, v)) := by
  obtain ⟨es, c, hb, hst, hks, hg⟩ := h.map
  obtain ⟨x, hx, q1, q2⟩ := (hg s v).1 hf
  have hk : IsKey .string (.string s) := trivial
  rcases findNow_spec hk es.toList 0 hks with ⟨h1, hno⟩ | ⟨j, e, h1, h2, h3⟩
  · exact absurd q1 (hno x hx)
  · obtain ⟨i, hi⟩ := Array.mem_iff_getElem?.1 (Array.mem_toList_iff.1 hx)
    have hj : es[j]? = some e := by simpa using h2
    obtain rfl := key_at hst hi hj (q1.trans h3.symm)
    rw [hj] at hi
    cases hi
    exact ⟨es, c, _, hb, by rw [h1, q2]⟩
theorem MapF.lost (h : MapF b f w) {s : ByteArray} (hf : f s = none) : ∃ es c, w.heap[b]? = some (.map es c) ∧ Instr.findNow .string (.string s) es.toList 0 = some none := by
  obtain ⟨es, c, hb, hst, hks, hg⟩ := h.map
  have hk : IsKey .string (.string s) := trivial
  rcases findNow_spec hk es.toList 0 hks with ⟨h1, hno⟩ | ⟨j, e, h1, h2, h3⟩
  · exact ⟨es, c, hb, h1⟩
  · have := (hg s e.val).2 ⟨e, List.mem_of_getElem? h2, h3, rfl⟩
    rw [hf] at this
    cases this
theorem MapF.look (h : MapF b f w) (hm : Tryz.prog.underlying t = some (.map kt et)) (hd : Tryz.prog.underlying kt = some .string) {s : ByteArray} {v : Value} (hf : f s = some v) :
    (Instr.lookup t (.map (some b)) (.string s) true).run Tryz.prog w = .ok (.tuple #[v, .bool true]) w := by
  obtain ⟨es, c, i, hb, h1⟩ := h.found hf
  have hk : IsKey .string (.string s) := trivial
  simp [Instr.lookup, run_underlying hm, MapKept.run_getObj_map hb, run_checkKey hd hk, run_findKey hd h1, Result.andThen]
theorem MapF.miss (h : MapF b f w) (hm : Tryz.prog.underlying t = some (.map kt et)) (hd : Tryz.prog.underlying kt = some .string) {s : ByteArray} {z : Value} (hz : (zeroValue et).run Tryz.prog w = .ok z w) (hf : f s = none) :
    (Instr.lookup t (.map (some b)) (.string s) true).run Tryz.prog w = .ok (.tuple #[z, .bool false]) w := by
  obtain ⟨es, c, hb, h1⟩ := h.lost hf
  have hk : IsKey .string (.string s) := trivial
  simp [Instr.lookup, run_underlying hm, MapKept.run_getObj_map hb, run_checkKey hd hk, run_findKey hd h1, hz, Result.andThen]
theorem MapF.del (h : MapF b f w) (hm : Tryz.prog.underlying t = some (.map kt et)) (hd : Tryz.prog.underlying kt = some .string) (s : ByteArray) (ty : TypeId) (ts : Array TypeId) (hts : ts[0]? = some t) :
    ∃ w2, (Builtin.delete_ ts ty #[.map (some b), .string s]).run Tryz.prog w = .ok (.tuple #[]) w2 ∧ MapF b (updV f s none) w2 ∧ But b w w2 := by
  obtain ⟨es, c, hb, hst, hks, hf⟩ := h.map
  have l := h.low
  have hk : IsKey .string (.string s) := trivial
  rcases findNow_spec hk es.toList 0 hks with ⟨h1, hno⟩ | ⟨j, e, h1, h2, h3⟩
  · refine ⟨{ w with heap := w.heap.setIfInBounds b (.map es c) }, by simp [Builtin.delete_, hts, run_underlying hm, MapKept.run_getObj_map hb, run_checkKey hd hk, run_findKey hd h1, MapKept.run_setObj_map _ hb, Result.andThen], ⟨by simpa using l, es, c, by simp [l], hst, hks, ?_⟩, setBut _⟩
    intro s' v'
    unfold updV
    by_cases hs : s' = s
    · subst hs
      rw [if_pos rfl]
      constructor
      · intro q; cases q
      · rintro ⟨x, hx, q1, _⟩
        exact absurd q1 (hno x hx)
    · rw [if_neg hs, hf]
  · have hj : es[j]? = some e := by simpa using h2
    have hlt : j < es.size := (Array.getElem?_eq_some_iff.1 hj).1
    refine ⟨{ w with heap := w.heap.setIfInBounds b (.map (es.eraseIdxIfInBounds j) c) }, by simp [Builtin.delete_, hts, run_underlying hm, MapKept.run_getObj_map hb, run_checkKey hd hk, run_findKey hd h1, MapKept.run_setObj_map _ hb, Result.andThen], ⟨by simpa using l, es.eraseIdxIfInBounds j, c, by simp [l], stamped_erase hst j, ?_, ?_⟩, setBut _⟩
    · intro x hx
      unfold Array.eraseIdxIfInBounds at hx
      rw [dif_pos hlt] at hx
      simp only [Array.toList_eraseIdx] at hx
      exact hks x (List.mem_of_mem_eraseIdx hx)
    · intro s' v'
      unfold updV
      have hmem : ∀ x, x ∈ (es.eraseIdxIfInBounds j).toList ↔ ∃ i, i ≠ j ∧ es[i]? = some x := by
        intro x
        unfold Array.eraseIdxIfInBounds
        rw [dif_pos hlt]
        simp only [Array.toList_eraseIdx]
        rw [List.mem_eraseIdx_iff_getElem?]
        simp only [Array.getElem?_toList]
      by_cases hs : s' = s
      · subst hs
        rw [if_pos rfl]
        constructor
        · intro q; cases q
        · rintro ⟨x, hx, q1, _⟩
          obtain ⟨i, hij, hi⟩ := (hmem x).1 hx
          exact absurd (key_at hst hi hj (q1.trans h3.symm)) hij
      · rw [if_neg hs, hf]
        constructor
        · rintro ⟨x, hx, q1, q2⟩
          obtain ⟨i, hi⟩ := Array.mem_iff_getElem?.1 (Array.mem_toList_iff.1 hx)
          refine ⟨x, (hmem x).2 ⟨i, ?_, hi⟩, q1, q2⟩
          rintro rfl
          rw [hj] at hi
          cases hi
          rw [h3] at q1
          exact hs (by simpa using q1.symm)
        · rintro ⟨x, hx, q1, q2⟩
          obtain ⟨i, _, hi⟩ := (hmem x).1 hx
          exact ⟨x, Array.mem_toList_iff.2 (Array.mem_iff_getElem?.2 ⟨i, hi⟩), q1, q2⟩
end
end Go.Proofs.YtnegjbkbfgkkjaaGreatDoor

/- Walks: what two shapes are joined; a type's shape; a shape written as a type. -/
namespace Go.Proofs.YtnegjbkbfgkkjaaGreatDoor
open Go.RowKit

set_option maxHeartbeats 2000000 in
theorem join_any (a b : Sp) (w : World) (ha : a.n ≤ 100000) (hb : b.n ≤ 100000) :
    Calls Tryz.prog 152 #[sh a, sh b] w fun e w' => e = .returned (sh (a.join b)) ∧ Below w.heap.size w w' := by
  have F1 := hide (fun wx => fits_any a b wx ha hb)
  have F2 := hide (fun wx => fits_any b a wx hb ha)
  have P := hide (fun wx => peeled_any a b wx ha hb)
  obtain ⟨a', hA⟩ : ∃ a' : Sp, a' = ⟨a.n - min a.n b.n, a.k⟩ := ⟨_, rfl⟩
  obtain ⟨b', hB⟩ : ∃ b' : Sp, b' = ⟨b.n - min a.n b.n, b.k⟩ := ⟨_, rfl⟩
  rw [← hA, ← hB] at P
  clear hA hB
  unfold fit at F1 F2
  go_enter Tryz.func152, Tryz.ntmps152
  go_wp2_with fail
  refine (unhide F1 _).mono ?_
  rintro e w1 ⟨rfl, hb1⟩
  have B0 : Below w.heap.size w (((w.alloc (.cells #[.int .i64 (a.n : Int), .int .i64 a.k] 158)).alloc (.cells #[.int .i64 (b.n : Int), .int .i64 b.k] 158)).alloc (.cells #[.int .i64 0, .int .i64 0] 158)) := (((Below.refl _ _).alloc (Nat.le_refl _) _).alloc (by simp) _).alloc (by simp; omega) _
  have X0 := (((Bx2.new w 158 (.int .i64 a.n) (.int .i64 a.k)).keep ((Below.refl _ _).alloc (Nat.le_refl _) (.cells #[.int .i64 b.n, .int .i64 b.k] 158)) (by simp)).keep ((Below.refl _ _).alloc (Nat.le_refl _) (.cells #[.int .i64 0, .int .i64 0] 158)) (by simp; omega)).keep hb1 (by simp; omega)
  have X1 := ((Bx2.new (w.alloc (.cells #[.int .i64 a.n, .int .i64 a.k] 158)) 158 (.int .i64 b.n) (.int .i64 b.k)).keep ((Below.refl _ _).alloc (Nat.le_refl _) (.cells #[.int .i64 0, .int .i64 0] 158)) (by simp)).keep hb1 (by simp)
  have X2 := (Bx2.new ((w.alloc (.cells #[.int .i64 a.n, .int .i64 a.k] 158)).alloc (.cells #[.int .i64 b.n, .int .i64 b.k] 158)) 158 (.int .i64 0) (.int .i64 0)).keep hb1 (by simp)
  simp only [World.size_alloc] at X1 X2
  have B1 := hide (below_via B0 hb1)
  clear B0 hb1
  by_cases c1 : a.Fits b
  · rw [decide_eq_true c1]
    have J : Hid (a.join b = b) := hide (by unfold Sp.join; rw [if_pos c1])
    have d0 := X1.at0
    have d1 := X1.at1
    have g0 := X2.at0
    have g1 := X2.at1
    have h0 := X2.th0
    have h1 := X2.th1
    have l2 := X2.low
    have R := X2.put (.int .i64 b.n) (.int .i64 b.k)
    have r0 := hide R.at0
    have r1 := hide R.at1
    clear X0 X1 X2 R F1 F2 P c1
    go_wp2
    refine bodyPost_ret (v := sh (a.join b)) ?_ rfl ⟨rfl, ?_⟩
    · rw [unhide J]
      simp [results, Tryz.results152, go_sem, unhide r0, unhide r1]
    · exact ((unhide B1).setCell (by simp; omega) _).setCell (by simp; omega) _
  · rw [decide_eq_false c1]
    have Y0 := hide X0
    have Y1 := hide X1
    have Y2 := hide X2
    have d0 := X1.at0
    have d1 := X1.at1
    have a0 := X0.at0
    have a1 := X0.at1
    clear X0 X1 X2
    go_wp2_with fail
    refine (unhide F2 _).mono ?_
    rintro e w2 ⟨rfl, hb2⟩
    have X0 := (unhide Y0).keep hb2 (unhide Y0).low
    have X1 := (unhide Y1).keep hb2 (unhide Y1).low
    have X2 := (unhide Y2).keep hb2 (unhide Y2).low
    have B2 := hide (below_via (unhide B1) hb2)
    clear hb2 B1 Y0 Y1 Y2 d0 d1 a0 a1
    by_cases c2 : b.Fits a
    · rw [decide_eq_true c2]
      have J : Hid (a.join b = a) := hide (by unfold Sp.join; rw [if_neg c1, if_pos c2])
      have d0 := X0.at0
      have d1 := X0.at1
      have g0 := X2.at0
      have g1 := X2.at1
      have h0 := X2.th0
      have h1 := X2.th1
      have l2 := X2.low
      have R := X2.put (.int .i64 a.n) (.int .i64 a.k)
      have r0 := hide R.at0
      have r1 := hide R.at1
      clear X0 X1 X2 R F1 F2 P c1 c2
      go_wp2
      refine bodyPost_ret (v := sh (a.join b)) ?_ rfl ⟨rfl, ?_⟩
      · rw [unhide J]
        simp [results, Tryz.results152, go_sem, unhide r0, unhide r1]
      · exact ((unhide B2).setCell (by simp; omega) _).setCell (by simp; omega) _
    · rw [decide_eq_false c2]
      have J : Hid (a.join b = ⟨min a.n b.n, 6⟩) := hide (by unfold Sp.join; rw [if_neg c1, if_neg c2])
      have Y2 := hide X2
      have d0 := X1.at0
      have d1 := X1.at1
      have a0 := X0.at0
      have a1 := X0.at1
      clear X0 X1 X2 F1 F2 c1 c2
      go_wp2_with fail
      refine (unhide P _).mono ?_
      rintro e w3 ⟨rfl, hb3⟩
      have X2 := ((unhide Y2).keep hb3 (unhide Y2).low).keep (((Below.refl _ _).alloc (Nat.le_refl _) (.cells #[.int .i64 (a'.n : Int), .int .i64 a'.k] 158)).alloc (by simp) (.cells #[.int .i64 (b'.n : Int), .int .i64 b'.k] 158)) ((unhide Y2).keep hb3 (unhide Y2).low).low
      have B3 := hide (below_via (unhide B2) (below_via hb3 (((Below.refl _ _).alloc (Nat.le_refl _) (.cells #[.int .i64 (a'.n : Int), .int .i64 a'.k] 158)).alloc (by simp) (.cells #[.int .i64 (b'.n : Int), .int .i64 b'.k] 158))))
      clear hb3 B2 Y2 d0 d1 a0 a1 P
      have g0 := X2.at0
      have g1 := X2.at1
      have h0 := X2.th0
      have h1 := X2.th1
      have l2 := X2.low
      have R := X2.put (.int .i64 (min a.n b.n : Nat)) (.int .i64 6)
      have r0 := hide R.at0
      have r1 := hide R.at1
      clear X2 R
      go_wp2
      refine bodyPost_ret (v := sh (a.join b)) ?_ rfl ⟨rfl, ?_⟩
      · rw [unhide J]
        simp [results, Tryz.results152, go_sem, unhide r0, unhide r1]
      · exact ((unhide B3).setCell (by simp; omega) _).setCell (by simp; omega) _

theorem MemTP.form {P : Nat → Prop} {w : World} {T : TT} {v : Array Value} (h : MemTP P w T v) : ∃ k a n cap, v = #[.int .i64 k, .slice a n cap] := by
  cases T with
  | mk k ks =>
    obtain ⟨_, a', cap, rfl⟩ := h.any
    exact ⟨_, _, _, _, rfl⟩
theorem rt_kind (a : Sp) {P : Nat → Prop} {w : World} {v : Array Value} (h : MemTP P w (rt a) v) : ∃ k s, v = #[.int .i64 k, s] := by
  cases e : rt a with
  | mk k ks =>
    rw [e] at h
    obtain ⟨_, a', cap, rfl⟩ := h.any
    exact ⟨_, _, rfl⟩
set_option maxHeartbeats 2000000 in
theorem shapeOf_any (a : Sp) (v : Array Value) (w : World) (ha : a.n ≤ 60000) (hk : a.k ≠ 5) (hm : MemT w.heap.size w (rt a) v) :
    Calls Tryz.prog 86 #[.agg v] w fun e w' => e = .returned (sh a) ∧ Below w.heap.size w w' := by
  obtain ⟨k, s, rfl⟩ := rt_kind a hm
  have M0 : Hid (MemT w.heap.size w (rtN (a.n - 0) a.k) #[.int .i64 k, s]) := hide hm
  clear hm
  have hk5 : (a.k == 5) = false := by simpa using hk
  have X0 := hide ((Bx2.new w 114 (.int .i64 k) s).keep ((Below.refl _ _).alloc (Nat.le_refl _) (.cells #[.int .i64 0, .int .i64 0] 158)) (by simp))
  have Y0 : Hid (Bx2 ((w.alloc (.cells #[.int .i64 k, s] 114)).alloc (.cells #[.int .i64 0, .int .i64 0] 158)) (w.heap.size + 1) (.int .i64 0) (.int .i64 0)) := hide (by simpa using Bx2.new (w.alloc (.cells #[.int .i64 k, s] 114)) 158 (.int .i64 0) (.int .i64 0))
  have B0 := hide (((Below.refl w.heap.size w).alloc (Nat.le_refl _) (.cells #[.int .i64 k, s] 114)).alloc (by simp) (.cells #[.int .i64 0, .int .i64 0] 158))
  go_enter Tryz.func86, Tryz.ntmps86
  go_wp2_with fail
  go_loopw [3] (fun i wr => ∃ (m : Nat) (u0 u1 : Value), m ≤ a.n ∧ i = .int .i64 (m : Int) ∧ Hid (Bx2 wr w.heap.size u0 u1) ∧ Hid (Bx2 wr (w.heap.size + 1) (.int .i64 0) (.int .i64 0)) ∧ Hid (MemT w.heap.size w (rtN (a.n - m) a.k) #[u0, u1]) ∧ Hid (Below w.heap.size w wr)) (fun i _ => a.n - (intOf i).toNat)
  case atStart => exact ⟨0, _, _, Nat.zero_le _, rfl, X0, Y0, M0, B0⟩
  case round =>
    obtain ⟨m, u0, u1, hml, rfl, HX, HY, HM, HB⟩ := hrel
    clear X0 Y0 M0 B0
    have X := unhide HX
    have x0 := X.at0
    have x1 := X.at1
    have t0 := X.th0
    have t1 := X.th1
    have lx := X.low
    clear X
    by_cases hlt : m < a.n
    · obtain ⟨r, hr⟩ : ∃ r, a.n - m = r + 1 := ⟨a.n - m - 1, by omega⟩
      have hr2 : a.n - (m + 1) = r := by omega
      have hM := unhide HM
      rw [hr, rtN] at hM
      obtain ⟨b, off, cap, y0, y1, hv, hlb, c0, c1, hK⟩ := MemTP.kid hM
      simp only [Array.mk.injEq, List.cons.injEq, and_true] at hv
      obtain ⟨rfl, rfl⟩ := hv
      rw [← (unhide HB).cell (p := ⟨b, off, none⟩) hlb] at c0
      rw [← (unhide HB).cell (p := ⟨b, off + 1, none⟩) hlb] at c1
      obtain ⟨k', a', n', cap', hy⟩ := hK.form
      simp only [Array.mk.injEq, List.cons.injEq, and_true] at hy
      obtain ⟨rfl, rfl⟩ := hy
      have HK : Hid (MemT w.heap.size w (rtN (a.n - (m + 1)) a.k) #[.int .i64 k', .slice a' n' cap']) := hide (by rw [hr2]; exact hK)
      have R := hide ((unhide HX).put (.int .i64 k') (.slice a' n' cap'))
      have HY2 := hide (((unhide HY).other (q := w.heap.size) (by omega) 0 (.int .i64 k')).other (q := w.heap.size) (by omega) 1 (.slice a' n' cap'))
      have HB2 := hide (((unhide HB).setCell (p := ⟨w.heap.size, 0, none⟩) (Nat.le_refl _) (.int .i64 k')).setCell (p := ⟨w.heap.size, 1, none⟩) (Nat.le_refl _) (.slice a' n' cap'))
      clear hM hK HM HX HY HB hr hr2
      have hm1 : (m : Int) < 65536 := by omega
      go_wp2
      go_roundw
      case rel => exact ⟨m + 1, _, _, by omega, by go_num, R, HY2, HK, HB2⟩
      case measure => simp [intOf]; omega
    · obtain rfl : m = a.n := by omega
      have hM := unhide HM
      rw [Nat.sub_self, rtN] at hM
      obtain ⟨b, cap, hv⟩ := MemTP.leaf hM
      simp only [Array.mk.injEq, List.cons.injEq, and_true] at hv
      obtain ⟨rfl, rfl⟩ := hv
      have Y := unhide HY
      have g0 := Y.at0
      have g1 := Y.at1
      have h0 := Y.th0
      have h1 := Y.th1
      have l2 := Y.low
      have R := Y.put (.int .i64 a.n) (.int .i64 a.k)
      have r0 := hide R.at0
      have r1 := hide R.at1
      clear Y R hM HX HY HM
      go_wp2
      refine bodyPost_ret (v := sh a) ?_ rfl ⟨rfl, ?_⟩
      · simp [results, Tryz.results86, go_sem, unhide r0, unhide r1]
      · exact ((unhide HB).setCell (by simp) _).setCell (by simp) _

abbrev wW (wr : World) (p : Nat) (x y : Value) : World := ((wr.setCell ⟨p, 0, none⟩ (.int .i64 5)).setCell ⟨p, 1, none⟩ (.slice (some ⟨wr.heap.size, 0, none⟩) 1 1)).alloc (.cells #[x, y] 114)
theorem wW_size (wr : World) (p : Nat) (x y : Value) : (wW wr p x y).heap.size = wr.heap.size + 1 := by simp [wW]
theorem wW_cell (wr : World) (p : Nat) (x y : Value) (q o : Nat) (h1 : p < q) (h2 : q < wr.heap.size) : (wW wr p x y).cell? ⟨q, o, none⟩ = wr.cell? ⟨q, o, none⟩ := by
  refine World.cell?_of_block (w := wr) (w' := wW wr p x y) (a := ⟨q, o, none⟩) ?_
  rw [wW, Below.heap_alloc _ _ _ (by simpa using h2), Below.heap_setCell _ _ _ _ (by simp; omega), Below.heap_setCell _ _ _ _ (by simp; omega)]
theorem wW_new (wr : World) (p : Nat) (x y : Value) : (wW wr p x y).cell? ⟨wr.heap.size, 0, none⟩ = some x ∧ (wW wr p x y).cell? ⟨wr.heap.size, 1, none⟩ = some y := by
  have h := Bx2.new ((wr.setCell ⟨p, 0, none⟩ (.int .i64 5)).setCell ⟨p, 1, none⟩ (.slice (some ⟨wr.heap.size, 0, none⟩) 1 1)) 114 x y
  simp only [World.size_setCell] at h
  exact ⟨h.at0, h.at1⟩
theorem wW_mem {wr : World} {p : Nat} {x y : Value} {T : TT} (lp : p < wr.heap.size) (h : MemTP (fun q => p < q ∧ q < wr.heap.size) wr T #[x, y]) :
    MemTP (fun q => p < q ∧ q < (wW wr p x y).heap.size) (wW wr p x y) (.mk 5 [T]) #[.int .i64 5, .slice (some ⟨wr.heap.size, 0, none⟩) 1 1] := by
  refine MemTP.mkKid 5 1 ⟨lp, by rw [wW_size]; omega⟩ (wW_new wr p x y).1 (wW_new wr p x y).2 ?_
  exact MemTP.keep (fun b hb => ⟨⟨hb.1, by rw [wW_size]; omega⟩, fun o => wW_cell wr p x y b o hb.1 hb.2⟩) h

set_option maxHeartbeats 2000000 in
theorem written_any (a : Sp) (w : World) (ha : a.n ≤ 60000) :
    Calls Tryz.prog 85 #[sh a] w fun e w' => ∃ v, e = .returned (.agg v) ∧ MemTP (fun q => w.heap.size ≤ q ∧ q < w'.heap.size) w' (rt a) v ∧ Below w.heap.size w w' := by
  have Y0 : Hid (Bx2 (((w.alloc (.cells #[.int .i64 (a.n : Int), .int .i64 a.k] 158)).alloc (.cells #[.int .i64 0, .slice none 0 0] 114)).alloc (.cells #[.int .i64 a.k, .slice none 0 0] 114)) (w.heap.size + 1) (.int .i64 0) (.slice none 0 0)) :=
    hide (by simpa using (Bx2.new (w.alloc (.cells #[.int .i64 (a.n : Int), .int .i64 a.k] 158)) 114 (.int .i64 0) (.slice none 0 0)).keep ((Below.refl _ _).alloc (Nat.le_refl _) (.cells #[.int .i64 a.k, .slice none 0 0] 114)) (by simp))
  have X0 : Hid (Bx2 (((w.alloc (.cells #[.int .i64 (a.n : Int), .int .i64 a.k] 158)).alloc (.cells #[.int .i64 0, .slice none 0 0] 114)).alloc (.cells #[.int .i64 a.k, .slice none 0 0] 114)) (w.heap.size + 1 + 1) (.int .i64 a.k) (.slice none 0 0)) :=
    hide (by simpa using Bx2.new ((w.alloc (.cells #[.int .i64 (a.n : Int), .int .i64 a.k] 158)).alloc (.cells #[.int .i64 0, .slice none 0 0] 114)) 114 (.int .i64 a.k) (.slice none 0 0))
  have B0 : Hid (Below w.heap.size w (((w.alloc (.cells #[.int .i64 (a.n : Int), .int .i64 a.k] 158)).alloc (.cells #[.int .i64 0, .slice none 0 0] 114)).alloc (.cells #[.int .i64 a.k, .slice none 0 0] 114))) :=
    hide ((((Below.refl _ _).alloc (Nat.le_refl _) _).alloc (by simp) _).alloc (by simp; omega) _)
  go_enter Tryz.func85, Tryz.ntmps85
  go_wp2_with fail
  go_loopw [9] (fun i wr => ∃ (m : Nat) (k : Int) (b : Option Addr) (n cap : Nat), m ≤ a.n ∧ i = .int .i64 (m : Int) ∧ Hid (Bx2 wr (w.heap.size + 1) (.int .i64 0) (.slice none 0 0)) ∧ Hid (Bx2 wr (w.heap.size + 1 + 1) (.int .i64 k) (.slice b n cap)) ∧
    Hid (MemTP (fun q => w.heap.size + 1 + 1 < q ∧ q < wr.heap.size) wr (rtN m a.k) #[.int .i64 k, .slice b n cap]) ∧ Hid (Below w.heap.size w wr)) (fun i _ => a.n - (intOf i).toNat)
  case atStart => exact ⟨0, _, _, _, _, Nat.zero_le _, rfl, Y0, X0, hide (MemTP.mkLeaf _ _ _ _ _), B0⟩
  case round =>
    obtain ⟨m, k, b, n, cap, hml, rfl, HY, HX, HM, HB⟩ := hrel
    clear X0 Y0 B0
    have X := unhide HX
    have x0 := X.at0
    have x1 := X.at1
    have t0 := X.th0
    have t1 := X.th1
    have lx := X.low
    clear X
    by_cases hlt : m < a.n
    · have hi : (m : Int) < (a.n : Int) := by omega
      have HM2 : Hid (MemTP (fun q => w.heap.size + 1 + 1 < q ∧ q < (wW wr (w.heap.size + 1 + 1) (.int .i64 k) (.slice b n cap)).heap.size) (wW wr (w.heap.size + 1 + 1) (.int .i64 k) (.slice b n cap)) (rtN (m + 1) a.k) #[.int .i64 5, .slice (some ⟨wr.heap.size, 0, none⟩) 1 1]) := hide (wW_mem lx (unhide HM))
      have HX2 := hide (((unhide HX).put (.int .i64 5) (.slice (some ⟨wr.heap.size, 0, none⟩) 1 1)).keep ((Below.refl _ _).alloc (Nat.le_refl _) (.cells #[.int .i64 k, .slice b n cap] 114)) (by simpa using lx))
      have HY2 := hide ((((unhide HY).other (q := w.heap.size + 1 + 1) (by omega) 0 (.int .i64 5)).other (q := w.heap.size + 1 + 1) (by omega) 1 (.slice (some ⟨wr.heap.size, 0, none⟩) 1 1)).keep ((Below.refl _ _).alloc (Nat.le_refl _) (.cells #[.int .i64 k, .slice b n cap] 114)) (by simpa using (unhide HY).low))
      have HB2 := hide ((((unhide HB).setCell (p := ⟨w.heap.size + 1 + 1, 0, none⟩) (by simp; omega) (.int .i64 5)).setCell (p := ⟨w.heap.size + 1 + 1, 1, none⟩) (by simp; omega) (.slice (some ⟨wr.heap.size, 0, none⟩) 1 1)).alloc (by have := (unhide HB).size; simpa using this) (.cells #[.int .i64 k, .slice b n cap] 114))
      clear HM HX HY HB
      go_wp2
      go_roundw
      case rel => exact ⟨m + 1, 5, some ⟨wr.heap.size, 0, none⟩, 1, 1, by omega, by go_num, HY2, HX2, HM2, HB2⟩
      case measure => simp [intOf]; omega
    · obtain rfl : m = a.n := by omega
      have Y := unhide HY
      have g0 := Y.at0
      have g1 := Y.at1
      have h0 := Y.th0
      have h1 := Y.th1
      have l2 := Y.low
      have R := Y.put (.int .i64 k) (.slice b n cap)
      have r0 := hide R.at0
      have r1 := hide R.at1
      have HM2 : Hid (MemTP (fun q => w.heap.size ≤ q ∧ q < ((wr.setCell ⟨w.heap.size + 1, 0, none⟩ (.int .i64 k)).setCell ⟨w.heap.size + 1, 1, none⟩ (.slice b n cap)).heap.size) ((wr.setCell ⟨w.heap.size + 1, 0, none⟩ (.int .i64 k)).setCell ⟨w.heap.size + 1, 1, none⟩ (.slice b n cap)) (rt a) #[.int .i64 k, .slice b n cap]) := by
        refine hide (MemTP.keep (fun q hq => ⟨⟨by omega, by simpa using hq.2⟩, fun o => ?_⟩) (unhide HM))
        refine World.cell?_of_block (w := wr) (a := ⟨q, o, none⟩) ?_
        rw [Below.heap_setCell _ _ _ _ (by simp; omega), Below.heap_setCell _ _ _ _ (by simp; omega)]
      clear Y R HX HY HM
      go_wp2
      refine bodyPost_ret (v := .agg #[.int .i64 k, .slice b n cap]) ?_ rfl ⟨_, rfl, unhide HM2, ?_⟩
      · simp [results, Tryz.results85, go_sem, unhide r0, unhide r1]
      · exact ((unhide HB).setCell (by simp) _).setCell (by simp) _

theorem MemTP.low {B : Nat} {w : World} {T : TT} {v : Array Value} (k : MemTP (fun q => B ≤ q ∧ q < w.heap.size) w T v) : MemT w.heap.size w T v :=
  MemTP.keep (fun _ hq => ⟨hq.2, fun _ => rfl⟩) k
/-- a new type, when an elder block is written -/
theorem MemTP.put {B p : Nat} {w : World} {T : TT} {v : Array Value} (k : MemTP (fun q => B ≤ q ∧ q < w.heap.size) w T v) (hp : p < B) (x y : Value) :
    MemTP (fun q => B ≤ q ∧ q < ((w.setCell ⟨p, 0, none⟩ x).setCell ⟨p, 1, none⟩ y).heap.size) ((w.setCell ⟨p, 0, none⟩ x).setCell ⟨p, 1, none⟩ y) T v := by
  refine MemTP.keep (fun q hq => ⟨⟨hq.1, by simpa using hq.2⟩, fun o => ?_⟩) k
  refine World.cell?_of_block (w := w) (a := ⟨q, o, none⟩) ?_
  rw [Below.heap_setCell _ _ _ _ (by simp; omega), Below.heap_setCell _ _ _ _ (by simp; omega)]
end Go.Proofs.YtnegjbkbfgkkjaaGreatDoor

/- Walks: Fits, Join, Wrong of types; the same types. -/
namespace Go.Proofs.YtnegjbkbfgkkjaaGreatDoor
open Go.RowKit

set_option maxHeartbeats 2000000 in
theorem tFits_any (a b : Sp) (u v : Array Value) (w : World) (ha : a.n ≤ 60000) (hb : b.n ≤ 60000) (ka : a.k ≠ 5) (kb : b.k ≠ 5) (hu : MemT w.heap.size w (rt a) u) (hv : MemT w.heap.size w (rt b) v) :
    Calls Tryz.prog 67 #[.agg u, .agg v] w fun e w' => e = .returned (fit a b) ∧ Below w.heap.size w w' := by
  have S1 := hide (fun wx (h : Below w.heap.size w wx) => shapeOf_any a u wx ha ka (hu.grow h))
  have S2 := hide (fun wx (h : Below w.heap.size w wx) => shapeOf_any b v wx hb kb (hv.grow h))
  have F := hide (fun wx => fits_any a b wx (by omega) (by omega))
  obtain ⟨k1, x1, rfl⟩ := rt_kind a hu
  obtain ⟨k2, x2, rfl⟩ := rt_kind b hv
  clear hu hv
  go_enter Tryz.func67, Tryz.ntmps67
  go_wp2_with fail
  have X0 := (Bx2.new w 114 (.int .i64 k1) x1).keep ((Below.refl _ _).alloc (Nat.le_refl _) (.cells #[.int .i64 k2, x2] 114)) (by simp)
  have X1 : Bx2 ((w.alloc (.cells #[.int .i64 k1, x1] 114)).alloc (.cells #[.int .i64 k2, x2] 114)) (w.heap.size + 1) (.int .i64 k2) x2 := by simpa using Bx2.new (w.alloc (.cells #[.int .i64 k1, x1] 114)) 114 (.int .i64 k2) x2
  have W0 : Below w.heap.size w ((w.alloc (.cells #[.int .i64 k1, x1] 114)).alloc (.cells #[.int .i64 k2, x2] 114)) := ((Below.refl _ _).alloc (Nat.le_refl _) _).alloc (by simp) _
  generalize (w.alloc (.cells #[.int .i64 k1, x1] 114)).alloc (.cells #[.int .i64 k2, x2] 114) = w0 at X0 X1 W0 ⊢
  have y0 := X0.at0
  have y1 := X0.at1
  have z0 := X1.at0
  have z1 := X1.at1
  have HX0 := hide X0
  have HX1 := hide X1
  have HW0 := hide W0
  clear X0 X1 W0
  go_region_with (first
    | (go_at_call 86
       first
         | (with_reducible refine (unhide S1 _ ?_).mono ?_; · exact below_via (unhide HW0) (by repeat (first | assumption | exact Below.refl _ _ | apply Below.drew)))
         | (with_reducible refine (unhide S2 _ ?_).mono ?_; · exact below_via (unhide HW0) (by repeat (first | assumption | exact Below.refl _ _ | apply Below.drew)))
       rintro e w1 ⟨rfl, hb⟩
       replace hb : Below w0.heap.size w0 w1 := below_via (by repeat (first | assumption | exact Below.refl _ _ | apply Below.drew)) hb
       have q0 := ((unhide HX0).keep hb (unhide HX0).low).at0
       have q1 := ((unhide HX0).keep hb (unhide HX0).low).at1
       have q2 := ((unhide HX1).keep hb (unhide HX1).low).at0
       have q3 := ((unhide HX1).keep hb (unhide HX1).low).at1)
    | (go_at_call 87
       refine (unhide F _).mono ?_
       rintro e w2 ⟨rfl, hb⟩
       replace hb : Below w0.heap.size w0 w2 := below_via (by repeat (first | assumption | exact Below.refl _ _ | apply Below.drew)) hb))
  all_goals
    have HB := hide hb
    clear hb
    go_wp2
    go_ret
    exact ⟨rfl, below_via (unhide HW0) (by repeat (first | exact unhide HB | apply Below.drew))⟩
end Go.Proofs.YtnegjbkbfgkkjaaGreatDoor

/- Walks: Join of types. -/
namespace Go.Proofs.YtnegjbkbfgkkjaaGreatDoor
open Go.RowKit
end Go.Proofs.YtnegjbkbfgkkjaaGreatDoor

/- Walks: what is wrong with a type. -/
namespace Go.Proofs.YtnegjbkbfgkkjaaGreatDoor
open Go.RowKit

theorem wT1 {d : Nat} {T : TT} (h : 10 < d) : wrongTy d T = 4 := by
  cases T with
  | mk k ks =>
    rcases ks with _ | ⟨e, _ | ⟨f, r⟩⟩
    · rw [wrongTy_leaf, if_pos (by omega)]
    · rw [wrongTy_one, if_pos (by omega)]
    · rw [wrongTy_more, if_pos (by omega)]
theorem wT2 {d : Nat} {k : Int} {ks : List TT} (h : ¬ 10 < d) (g : k < 1 ∨ 6 < k) : wrongTy d (.mk k ks) = 1 := by
  rcases ks with _ | ⟨e, _ | ⟨f, r⟩⟩
  · rw [wrongTy_leaf, if_neg (by omega), if_pos g]
  · rw [wrongTy_one, if_neg (by omega), if_pos g]
  · rw [wrongTy_more, if_neg (by omega), if_pos g]
theorem wT3 {d : Nat} {k : Int} {ks : List TT} (h : ¬ 10 < d) (g : ¬ (k < 1 ∨ 6 < k)) (q : k ≠ 5) (l : ks.length ≠ 0) : wrongTy d (.mk k ks) = 5 := by
  rcases ks with _ | ⟨e, _ | ⟨f, r⟩⟩
  · simp at l
  · rw [wrongTy_one, if_neg (by omega), if_neg g, if_pos q]
  · rw [wrongTy_more, if_neg (by omega), if_neg g]
theorem wT4 {d : Nat} {k : Int} {ks : List TT} (h : ¬ 10 < d) (g : ¬ (k < 1 ∨ 6 < k)) (q : k ≠ 5) (l : ks.length = 0) : wrongTy d (.mk k ks) = 0 := by
  obtain rfl := List.length_eq_zero_iff.1 l
  rw [wrongTy_leaf, if_neg (by omega), if_neg g, if_pos q]
theorem wT5 {d : Nat} {ks : List TT} (h : ¬ 10 < d) (l : ks.length ≠ 1) : wrongTy d (.mk 5 ks) = 5 := by
  rcases ks with _ | ⟨e, _ | ⟨f, r⟩⟩
  · rw [wrongTy_leaf, if_neg (by omega), if_neg (by omega), if_neg (by omega)]
  · simp at l
  · rw [wrongTy_more, if_neg (by omega), if_neg (by omega)]
theorem wT6 {d : Nat} {e : TT} (h : ¬ 10 < d) : wrongTy d (.mk 5 [e]) = wrongTy (d + 1) e := by
  rw [wrongTy_one, if_neg (by omega), if_neg (by omega), if_neg (by omega)]

set_option maxHeartbeats 4000000 in
theorem tWrong_any (T : TT) (u : Array Value) (w : World) (hu : MemT w.heap.size w T u) :
    Calls Tryz.prog 107 #[.agg u] w fun e w' => e = .returned (.int .i64 (wrongTy 1 T)) ∧ Below w.heap.size w w' := by
  obtain ⟨k1, a1, n1, c1, rfl⟩ := hu.form
  have HU := hide hu
  clear hu
  obtain ⟨R, hR⟩ : ∃ R, R = wrongTy 1 T := ⟨_, rfl⟩
  rw [← hR]
  have HR := hide hR.symm
  clear hR
  have X0 := hide (Bx2.new w 114 (.int .i64 k1) (.slice a1 n1 c1))
  have B0 := hide ((Below.refl w.heap.size w).alloc (Nat.le_refl _) (.cells #[.int .i64 k1, .slice a1 n1 c1] 114))
  go_enter Tryz.func107, Tryz.ntmps107
  go_wp2_with fail
  go_loopw [3] (fun i wr => ∃ (d : Nat) (T' : TT) (k : Int) (a : Option Addr) (n c : Nat), 1 ≤ d ∧ d ≤ 11 ∧ i = .int .i64 (d : Int) ∧ Hid (wrongTy d T' = R) ∧ Hid (Bx2 wr w.heap.size (.int .i64 k) (.slice a n c)) ∧ Hid (MemT w.heap.size w T' #[.int .i64 k, .slice a n c]) ∧ Hid (Below w.heap.size w wr)) (fun i _ => 11 - (intOf i).toNat)
  case atStart => exact ⟨1, T, k1, a1, n1, c1, by omega, by omega, rfl, HR, X0, HU, B0⟩
  case round =>
    obtain ⟨d, T', k, a, n, c, hd1, hd2, rfl, HT, HX, HM, HB⟩ := hrel
    clear X0 B0 HU HR
    have X := unhide HX
    have x0 := X.at0
    have x1 := X.at1
    have t0 := X.th0
    have t1 := X.th1
    have lx := X.low
    clear X
    cases T' with
    | mk k' ks =>
      have hM := unhide HM
      obtain ⟨hl, a', c', hv⟩ := MemTP.any hM
      simp only [Array.mk.injEq, List.cons.injEq, and_true, Value.int.injEq, Value.slice.injEq, true_and] at hv
      obtain ⟨rfl, rfl, rfl, rfl⟩ := hv
      by_cases h1 : 10 < d
      · have e := wT1 (T := .mk k ks) h1
        rw [unhide HT] at e
        have HE := hide e
        have h1' : (10 : Int) < (d : Int) := by omega
        clear e HT HX HM hM
        go_wp2
        go_ret
        exact ⟨by rw [unhide HE]; rfl, unhide HB⟩
      have h1' : ¬ (10 : Int) < (d : Int) := by omega
      by_cases h2 : k < 1 ∨ 6 < k
      · have e := wT2 (ks := ks) h1 h2
        rw [unhide HT] at e
        have HE := hide e
        clear e HT HX HM hM
        rcases Int.lt_or_le k 1 with h3 | h3
        · clear h2
          go_wp2
          go_ret
          exact ⟨by rw [unhide HE]; rfl, unhide HB⟩
        · have h4 : 6 < k := by omega
          have h5 : ¬ k < 1 := by omega
          clear h2
          go_wp2
          go_ret
          exact ⟨by rw [unhide HE]; rfl, unhide HB⟩
      have h3 : ¬ k < 1 := by omega
      have h4 : ¬ 6 < k := by omega
      by_cases h5 : k = 5
      · subst h5
        by_cases h6 : ks.length = 1
        · obtain ⟨e, rfl⟩ := List.length_eq_one_iff.1 h6
          obtain ⟨b, off, cap, y0, y1, hv, hlb, q0, q1, hK⟩ := MemTP.kid hM
          simp only [Array.mk.injEq, List.cons.injEq, and_true, Value.slice.injEq, true_and] at hv
          obtain ⟨rfl, _, rfl⟩ := hv
          obtain ⟨k', a', n', cap', hy⟩ := hK.form
          simp only [Array.mk.injEq, List.cons.injEq, and_true] at hy
          obtain ⟨rfl, rfl⟩ := hy
          rw [← (unhide HB).cell (p := ⟨b, off, none⟩) hlb] at q0
          rw [← (unhide HB).cell (p := ⟨b, off + 1, none⟩) hlb] at q1
          have e1 := wT6 (e := e) h1
          rw [unhide HT] at e1
          have HE := hide e1.symm
          have HK : Hid (MemT w.heap.size w e #[.int .i64 k', .slice a' n' cap']) := hide hK
          have HX2 := hide ((unhide HX).put (.int .i64 k') (.slice a' n' cap'))
          have HB2 := hide (((unhide HB).setCell (p := ⟨w.heap.size, 0, none⟩) (Nat.le_refl _) (.int .i64 k')).setCell (p := ⟨w.heap.size, 1, none⟩) (Nat.le_refl _) (.slice a' n' cap'))
          clear e1 HT HX HM hM hK HB h6 h2
          go_wp2
          go_roundw
          case rel => exact ⟨d + 1, e, k', a', n', cap', by omega, by omega, by go_num, HE, HX2, HK, HB2⟩
          case measure => simp [intOf]; omega
        · have e := wT5 (ks := ks) h1 h6
          rw [unhide HT] at e
          have HE := hide e
          have h7 : ((ks.length : Int) == 1) = false := by simp; omega
          clear e HT HX HM hM h2
          go_wp2
          go_ret
          exact ⟨by rw [unhide HE]; rfl, unhide HB⟩
      · have h8 : (k == 5) = false := by simpa using h5
        by_cases h6 : ks.length = 0
        · have e := wT4 (ks := ks) h1 h2 h5 h6
          rw [unhide HT] at e
          have HE := hide e
          obtain rfl := List.length_eq_zero_iff.1 h6
          simp only [List.length_nil] at x1
          clear e HT HX HM hM h2 h6
          go_wp2
          go_ret
          exact ⟨by rw [unhide HE]; rfl, unhide HB⟩
        · have e := wT3 (ks := ks) h1 h2 h5 h6
          rw [unhide HT] at e
          have HE := hide e
          have h7 : ((ks.length : Int) != 0) = true := by
            have : ¬ (ks.length : Int) = 0 := by omega
            simpa using this
          clear e HT HX HM hM h2
          go_wp2
          go_ret
          exact ⟨by rw [unhide HE]; rfl, unhide HB⟩
end Go.Proofs.YtnegjbkbfgkkjaaGreatDoor

/- Walks: types that are the same. -/
namespace Go.Proofs.YtnegjbkbfgkkjaaGreatDoor
open Go.RowKit
end Go.Proofs.YtnegjbkbfgkkjaaGreatDoor

/- Walks: the table of functions is made. -/
namespace Go.Proofs.YtnegjbkbfgkkjaaGreatDoor
open Go.RowKit Go.MapKept

/-- a new map with texts for keys -/
structure MapIn (w0 : World) (b : Nat) (w : World) : Prop where
  lo : w0.heap.size ≤ b
  low : b < w.heap.size
  map : ∃ es clock, w.heap[b]? = some (.map es clock) ∧ ∀ x ∈ es.toList, IsKey .string x.key
  old : Below w0.heap.size w0 w
theorem MapIn.keep {w0 w w' : World} {b : Nat} (h : MapIn w0 b w) (hb : Below w.heap.size w w') : MapIn w0 b w' := by
  obtain ⟨es, c, h1, h2⟩ := h.map
  exact ⟨h.lo, Nat.lt_of_lt_of_le h.low hb.size, ⟨es, c, (hb.block b h.low).trans h1, h2⟩, below_via h.old hb⟩
theorem MapIn.new (w : World) : MapIn w w.heap.size (w.alloc (.map #[] 0)) :=
  ⟨Nat.le_refl _, by simp, ⟨#[], 0, by show (w.heap.push _)[w.heap.size]? = _; simp, by simp⟩, (Below.refl _ _).alloc (Nat.le_refl _) _⟩
theorem MapIn.set {w0 w : World} {b : Nat} (h : MapIn w0 b w) (es : Array MapEntry) (c : Nat) (hk : ∀ x ∈ es.toList, IsKey .string x.key) : MapIn w0 b { w with heap := w.heap.setIfInBounds b (.map es c) } := by
  have l := h.low
  refine ⟨h.lo, by simpa using l, ⟨es, c, by simp [l], hk⟩, h.old.os, h.old.tape, h.old.output, by simpa using h.old.size, fun k hk => ?_⟩
  have hne : ¬ b = k := by have := h.lo; omega
  simp only [Array.getElem?_setIfInBounds, if_neg hne]
  exact h.old.block k hk
theorem MapIn.ins {w0 w : World} {b : Nat} {t kt et : TypeId} (h : MapIn w0 b w) (hm : Tryz.prog.underlying t = some (.map kt et)) (hd : Tryz.prog.underlying kt = some .string) (s : ByteArray) (v : Value) :
    ∃ w2, (Instr.mapUpdate t (.map (some b)) (.string s) v).run Tryz.prog w = .ok () w2 ∧ MapIn w0 b w2 := by
  obtain ⟨es, c, hb, hks⟩ := h.map
  have hk : IsKey .string (.string s) := trivial
  rcases findNow_spec hk es.toList 0 hks with ⟨h1, _⟩ | ⟨j, e, h1, h2, h3⟩
  · refine ⟨_, by simp [Instr.mapUpdate, run_underlying hm, MapKept.run_getObj_map hb, run_checkKey hd hk, run_findKey hd h1, MapKept.run_setObj_map _ hb, Result.andThen]; rfl, h.set _ _ ?_⟩
    intro x hx
    simp only [Array.toList_push, List.mem_append, List.mem_singleton] at hx
    rcases hx with hx | rfl
    · exact hks x hx
    · exact hk
  · have hj : es[j]? = some e := by simpa using h2
    refine ⟨_, by simp [Instr.mapUpdate, run_underlying hm, MapKept.run_getObj_map hb, run_checkKey hd hk, run_findKey hd h1, hj, h3, run_keyThatStays hk, MapKept.run_setObj_map _ hb, Result.andThen]; rfl, h.set _ _ ?_⟩
    intro x hx
    rcases MapFrom.mem_modify hx with hx | ⟨e', _, rfl⟩
    · exact hks x hx
    · exact hk
end Go.Proofs.YtnegjbkbfgkkjaaGreatDoor
