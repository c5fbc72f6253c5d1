/- What grows alone: new blocks, and draws; Cmp and compareNumbers lay blocks and turn nothing. -/
import Derived.Test.YtdkgapapdjefdaaGreatDoorG06
import Derived.Sort.Grow
import Derived.MapKept
namespace Go.Proofs.YtdkgapapdjefdaaGreatDoor
open Go.RowKit

/-- nothing turned, no draw taken back -/
structure Ahd (w w' : World) : Prop where
  b : Below w.heap.size w w'
  d : w.drawn ≤ w'.drawn
theorem Ahd.refl (w : World) : Ahd w w := ⟨Below.refl _ _, Nat.le_refl _⟩
theorem Ahd.trans {a b c : World} (h : Ahd a b) (k : Ahd b c) : Ahd a c := ⟨h.b.trans (k.b.mono h.b.size), Nat.le_trans h.d k.d⟩
theorem Ahd.alloc {w w' : World} (h : Ahd w w') (o : Obj) : Ahd w (w'.alloc o) := ⟨h.b.alloc h.b.size o, h.d⟩
theorem Ahd.drew {w w' : World} (h : Ahd w w') : Ahd w w'.drew := ⟨h.b.drew, Nat.le_succ_of_le h.d⟩
theorem Ahd.drewN {w w' : World} (h : Ahd w w') (n : Nat) : Ahd w (w'.drewN n) := ⟨below_drewN h.b n, Nat.le_trans h.d (by show _ ≤ w'.drawn + n; omega)⟩

theorem Ahd.grown {w w' : World} (h : Ahd w w') : ∃ q os, w' = Sort.grow (w.drewN q) os := by
  refine ⟨w'.drawn - w.drawn, (w'.heap.toList.drop w.heap.size).toArray, ?_⟩
  have hd := h.d
  obtain ⟨hp, tp, dr, os, ou⟩ := w'
  have h1 : ou = w.output := h.b.output
  have h2 : os = w.os := h.b.os
  have h3 : tp = w.tape := h.b.tape
  have h4 : dr = w.drawn + (dr - w.drawn) := by change w.drawn ≤ dr at hd; omega
  have h5 : hp = w.heap ++ (hp.toList.drop w.heap.size).toArray := by
    apply Array.toList_inj.1
    rw [Array.toList_append]
    have hs : w.heap.size ≤ hp.size := h.b.size
    have ht : hp.toList.take w.heap.size = w.heap.toList := by
      apply List.ext_getElem?
      intro i
      by_cases hi : i < w.heap.size
      · rw [List.getElem?_take_of_lt hi]
        simpa using h.b.block i hi
      · rw [List.getElem?_eq_none (by simp; omega), List.getElem?_eq_none (by simp; omega)]
    rw [← ht]
    exact (List.take_append_drop _ _).symm
  show World.mk hp tp dr os ou = World.mk (w.heap ++ (hp.toList.drop w.heap.size).toArray) w.tape (w.drawn + (dr - w.drawn)) w.os w.output
  rw [← h5, ← h4, h1, h2, h3]

set_option maxHeartbeats 400000 in
theorem wrong_ahd (c x : Int) (w : World) :
    Calls Tryz.prog 61 #[.agg #[.int .i64 c, .int .i64 x]] w fun e w' => e = .returned (.int .i64 (Dm.wrongN c x)) ∧ Ahd w w' := by
  go_enter Tryz.func61, Tryz.ntmps61
  go_wp2
  all_goals
    go_ret
    refine ⟨ret_int ?_, (Ahd.refl _).alloc _⟩
    unfold Dm.wrongN
    (repeat' split) <;> first | rfl | (exfalso; omega) | (simp_all; done)

set_option maxHeartbeats 400000 in
theorem wrongOf_ahd (c1 x1 c2 x2 : Int) (w : World) :
    Calls Tryz.prog 68 #[.agg #[.int .i64 c1, .int .i64 x1], .agg #[.int .i64 c2, .int .i64 x2]] w fun e w' => e = .returned (.int .i64 (Dm.wrong2 c1 x1 c2 x2)) ∧ Ahd w w' := by
  go_enter Tryz.func68, Tryz.ntmps68
  go_wp2_with fail
  refine (wrong_ahd c1 x1 _).mono ?_
  rintro e w1 ⟨rfl, ha⟩
  have hb := ha.b
  obtain ⟨hc, hf⟩ := bcell hb
  have hz : w.heap.size + 2 ≤ w1.heap.size := by have := hb.size; simp at this; omega
  have hb0 : Ahd w w1 := (((Ahd.refl _).alloc _).alloc _).trans ha
  by_cases h : Dm.wrongN c1 x1 = 0
  · have H := hide (Dm.wrong2_ok h c2 x2)
    have h' : (Dm.wrongN c1 x1 != 0) = false := by simp [h]
    clear h
    go_wp2_with fail
    refine (wrong_ahd c2 x2 _).mono ?_
    rintro e w2 ⟨rfl, hb2⟩
    go_wp2
    go_ret
    exact ⟨ret_int (unhide H).symm, hb0.trans hb2⟩
  · have H := hide (Dm.wrong2_no h c2 x2)
    have h' : (Dm.wrongN c1 x1 != 0) = true := by simp [h]
    clear h
    go_wp2
    go_ret
    exact ⟨ret_int (unhide H).symm, hb0⟩

set_option maxHeartbeats 400000 in
theorem size_ahd (c x : Int) (w : World) (h1 : -1000000000000000000 < c) (h2 : c < 1000000000000000000) :
    Calls Tryz.prog 131 #[.agg #[.int .i64 c, .int .i64 x]] w fun e w' => e = .returned (.int .u64 (c.natAbs : Int)) ∧ Ahd w w' := by
  by_cases h : c < 0
  all_goals
    go_enter Tryz.func131, Tryz.ntmps131
    go_wp2
    go_ret
    refine ⟨ret_int ?_, (Ahd.refl _).alloc _⟩
    omega

set_option maxHeartbeats 400000 in
theorem stretched_ahd (c x : Int) (w : World) (h1 : -1000000000000000000 < c) (h2 : c < 1000000000000000000) (h0 : 1 ≤ (c.natAbs : Int)) (hx1 : -40 ≤ x) (hx2 : x ≤ 40) :
    Calls Tryz.prog 117 #[.agg #[.int .i64 c, .int .i64 x]] w fun e w' => ∃ (m : Int) (k : Nat), e = .returned (.tuple #[.int .u64 m, .int .i64 (x - k)]) ∧ m = Dm.tens (c.natAbs : Int) k ∧ 100000000000000000 ≤ m ∧ m < 1000000000000000000 ∧ k ≤ 17 ∧ Ahd w w' := by
  have h9 : (c.natAbs : Int) < 1000000000000000000 := by omega
  go_enter Tryz.func117, Tryz.ntmps117
  go_upto_region 1 with fail
  go_cut [4, 5] from 6 (fun a b wc => a = .int .u64 (c.natAbs : Int) ∧ b = .int .i64 x ∧ Ahd w wc)
  case first =>
    go_region_with (go_at_call 131; refine (size_ahd c x _ h1 h2).mono ?_; rintro e w1 ⟨rfl, ha⟩; have hb := ha.b; obtain ⟨hc, hf⟩ := bcell hb)
    all_goals
      go_wp2_with fail
      go_meet
      case rel => exact ⟨rfl, rfl, (((Ahd.refl _).alloc _).drew).trans ha⟩
  case rest =>
    obtain ⟨rfl, rfl, hbel⟩ := hcut
    go_wp2
    go_loop [4, 5] (fun a b => ∃ (m : Int) (k : Nat), a = .int .u64 m ∧ b = .int .i64 (x - k) ∧ Hid (m = Dm.tens (c.natAbs : Int) k) ∧ 1 ≤ m ∧ m < 1000000000000000000 ∧ k ≤ 17) (fun a _ => (1000000000000000000 - intOf a).toNat)
    case atStart => exact ⟨_, 0, rfl, by simp, hide rfl, h0, h9, by omega⟩
    case round =>
      obtain ⟨m, k, rfl, rfl, H, hm1, hm2, hk⟩ := hrel
      by_cases hlt : m < 100000000000000000
      · have hk' := Dm.tens_lt (unhide H) h0 hlt
        go_wp2
        go_round
        case rel => exact ⟨_, k + 1, rfl, by go_num, hide (by rw [unhide H]; rfl), by omega, by omega, by omega⟩
        case measure => simp [intOf]; omega
      · go_wp2
        go_ret2
        exact ⟨m, k, rfl, unhide H, by omega, hm2, hk, hbel⟩

set_option maxHeartbeats 400000 in
theorem compareSizes_ahd (c1 x1 c2 x2 : Int) (w : World) (a1 : -1000000000000000000 < c1) (a2 : c1 < 1000000000000000000) (a0 : 1 ≤ (c1.natAbs : Int)) (a3 : -40 ≤ x1) (a4 : x1 ≤ 40)
    (b1 : -1000000000000000000 < c2) (b2 : c2 < 1000000000000000000) (b0 : 1 ≤ (c2.natAbs : Int)) (b3 : -40 ≤ x2) (b4 : x2 ≤ 40) :
    Calls Tryz.prog 78 #[.agg #[.int .i64 c1, .int .i64 x1], .agg #[.int .i64 c2, .int .i64 x2]] w fun e w' => e = .returned (.int .i64 (Dm.sgn (Dm.V (c1.natAbs : Int) x1 - Dm.V (c2.natAbs : Int) x2))) ∧ Ahd w w' := by
  go_enter Tryz.func78, Tryz.ntmps78
  go_wp2_with fail
  refine (stretched_ahd c1 x1 _ a1 a2 a0 a3 a4).mono ?_
  rintro e w1 ⟨m1, k1, rfl, e1, l1, u1, t1, ha⟩
  have hb := ha.b
  obtain ⟨hc, hf⟩ := bcell hb
  have hz : w.heap.size + 2 ≤ w1.heap.size := by have := hb.size; simp at this; omega
  have hb0 : Ahd w w1 := (((Ahd.refl _).alloc _).alloc _).trans ha
  have E1 := hide e1
  clear e1
  go_wp2_with fail
  refine (stretched_ahd c2 x2 _ b1 b2 b0 b3 b4).mono ?_
  rintro e w2 ⟨m2, k2, rfl, e2, l2, u2, t2, hb2⟩
  have hb9 : Ahd w w2 := hb0.trans hb2
  have E2 := hide e2
  clear e2 hc hf hz hb0
  have HV := hide (Dm.cmp_sizes a3 b3 (unhide E1) (unhide E2) l1 u1 l2 u2 t1 t2)
  by_cases h : x1 - (k1 : Int) = x2 - (k2 : Int)
  · have h' : (x1 - (k1 : Int) != x2 - (k2 : Int)) = false := by simp [h]
    have h2 := hide h
    clear h
    go_wp2_with fail
    refine (cmpU64_any m1 m2 _).mono ?_
    rintro e w3 ⟨rfl, rfl⟩
    go_wp2
    go_ret
    exact ⟨ret_int ((unhide HV).1 (unhide h2)).symm, hb9⟩
  · have h' : (x1 - (k1 : Int) != x2 - (k2 : Int)) = true := by simp [h]
    have h2 := hide h
    clear h
    go_wp2_with fail
    refine (cmpInt_any _ _ _).mono ?_
    rintro e w3 ⟨rfl, rfl⟩
    go_wp2
    go_ret
    exact ⟨ret_int ((unhide HV).2 (unhide h2)).symm, hb9⟩

theorem cmp_core_ahd (c1 x1 c2 x2 : Int) (w : World) (h : Dm.wrong2 c1 x1 c2 x2 = 0) (r : Int)
    (hd : Dm.sgn c1 ≠ Dm.sgn c2 → r = Dm.sgn (Dm.sgn c1 - Dm.sgn c2)) (hz : Dm.sgn c1 = Dm.sgn c2 → Dm.sgn c1 = 0 → r = 0)
    (hs : Dm.sgn c1 = Dm.sgn c2 → Dm.sgn c1 ≠ 0 → ∃ s, -1 ≤ s ∧ s ≤ 1 ∧ r = Dm.sgn c1 * s ∧ ∀ wx, Calls Tryz.prog 78 #[.agg #[.int .i64 c1, .int .i64 x1], .agg #[.int .i64 c2, .int .i64 x2]] wx fun e w' => e = .returned (.int .i64 s) ∧ Ahd wx w') :
    Calls Tryz.prog 39 #[.agg #[.int .i64 c1, .int .i64 x1], .agg #[.int .i64 c2, .int .i64 x2]] w fun e w' => e = .returned (.tuple #[.int .i64 r, .int .i64 0]) ∧ Ahd w w' := by
  have hd' := hide hd
  have hz' := hide hz
  have hs' := hide hs
  clear hd hz hs
  have sb := Dm.sgn_bd c1
  go_enter Tryz.func39, Tryz.ntmps39
  go_wp2_with fail
  refine (wrongOf_ahd c1 x1 c2 x2 _).mono ?_
  rintro e w1 ⟨rfl, ha⟩
  have hb := ha.b
  obtain ⟨hc, hf⟩ := bcell hb
  have hz1 : w.heap.size + 2 ≤ w1.heap.size := by have := hb.size; simp at this; omega
  have hb0 : Ahd w w1 := (((Ahd.refl _).alloc _).alloc _).trans ha
  rw [h]
  clear h
  go_wp2_with fail
  go_quiet ((go_at_call 76; exact Calls.quiet_of_same (cmpI64_any _ _ _)))
  by_cases h12 : Dm.sgn c1 = Dm.sgn c2
  · have h12' : (Dm.sgn c1 != Dm.sgn c2) = false := by simp [h12]
    have e12 := hide h12
    clear h12
    by_cases h0 : Dm.sgn c1 = 0
    · have h0' : (Dm.sgn c1 == 0) = true := by simp [h0]
      have e0 := hide h0
      clear h0
      go_wp2
      go_ret2
      rw [unhide hz' (unhide e12) (unhide e0)]
      exact ⟨rfl, hb0.drewN _⟩
    · have h0' : (Dm.sgn c1 == 0) = false := by simp [h0]
      obtain ⟨s, l1, l2, er, hcalls⟩ := unhide hs' (unhide e12) h0
      have hcalls' := hide hcalls
      have er' := hide er
      have em : -1 ≤ Dm.sgn c1 * s ∧ Dm.sgn c1 * s ≤ 1 := by
        rcases (show Dm.sgn c1 = -1 ∨ Dm.sgn c1 = 1 by omega) with q | q <;> rw [q] <;> omega
      obtain ⟨em1, em2⟩ := em
      clear hcalls er h0
      go_wp2_with fail
      refine (unhide hcalls' _).mono ?_
      rintro e w2 ⟨rfl, hb2⟩
      go_wp2
      go_ret2
      rw [unhide er']
      exact ⟨rfl, (hb0.drewN _).trans hb2⟩
  · have h12' : (Dm.sgn c1 != Dm.sgn c2) = true := by simp [h12]
    have hr := hide (unhide hd' h12)
    clear h12
    go_wp2_with fail
    refine (cmpInt_any _ _ _).mono ?_
    rintro e w3 ⟨rfl, rfl⟩
    go_wp2
    go_ret2
    rw [unhide hr]
    exact ⟨rfl, hb0.drewN _⟩

theorem cmp_ahd (c1 x1 c2 x2 : Int) (w : World) (h1 : Dm.wrongN c1 x1 = 0) (h2 : Dm.wrongN c2 x2 = 0) :
    Calls Tryz.prog 39 #[.agg #[.int .i64 c1, .int .i64 x1], .agg #[.int .i64 c2, .int .i64 x2]] w fun e w' => e = .returned (.tuple #[.int .i64 (Dm.sgn (Dm.V c1 x1 - Dm.V c2 x2)), .int .i64 0]) ∧ Ahd w w' := by
  obtain ⟨p1, p2, p3, p4, _⟩ := Dm.wrong_ok h1
  obtain ⟨q1, q2, q3, q4, _⟩ := Dm.wrong_ok h2
  refine cmp_core_ahd c1 x1 c2 x2 w (by rw [Dm.wrong2_ok h1, h2]) _ ?_ ?_ ?_
  · exact Dm.cmp_diff x1 x2
  · exact Dm.cmp_zero x1 x2
  · intro h12 h0
    obtain ⟨n1, n2, hr⟩ := Dm.cmp_same x1 x2 h12 h0
    exact ⟨_, (Dm.sgn_bd _).1, (Dm.sgn_bd _).2, hr, fun wx => compareSizes_ahd c1 x1 c2 x2 wx p1 p2 n1 p3 p4 q1 q2 n2 q3 q4⟩

set_option maxHeartbeats 400000 in
theorem cmpNums_ahd (c1 x1 c2 x2 : Int) (w : World) (h1 : Dm.wrongN c1 x1 = 0) (h2 : Dm.wrongN c2 x2 = 0) :
    Calls Tryz.prog 17 #[.agg #[.int .i64 c1, .int .i64 x1], .agg #[.int .i64 c2, .int .i64 x2]] w fun e w' => e = .returned (.int .i64 (Dm.sgn (Dm.V c1 x1 - Dm.V c2 x2))) ∧ Ahd w w' := by
  have C := hide (fun wx => cmp_ahd c1 x1 c2 x2 wx h1 h2)
  clear h1 h2
  go_enter Tryz.func17, Tryz.ntmps17
  go_wp2_with fail
  refine (unhide C _).mono ?_
  rintro e w1 ⟨rfl, ha⟩
  go_wp2
  go_ret
  exact ⟨rfl, (((Ahd.refl _).alloc _).alloc _).trans ha⟩
end Go.Proofs.YtdkgapapdjefdaaGreatDoor

/- A map as a set of keys: what is put in is in. -/
namespace Go.Proofs.YtdkgapapdjefdaaGreatDoor
open Go.RowKit Go.MapKept

/-- with one more, if it is not there -/
def insK {α : Type} [DecidableEq α] (K : List α) (x : α) : List α := if x ∈ K then K else K ++ [x]

/-- a map whose keys are these, each once -/
structure MSet {α : Type} (enc : α → Value) (b : Nat) (K : List α) (w : World) : Prop where
  map : ∃ es c, w.heap[b]? = some (.map es c) ∧ Stamped es c ∧ es.toList.map (·.key) = K.map enc
theorem MSet.low {α : Type} {enc : α → Value} {b : Nat} {K : List α} {w : World} (h : MSet enc b K w) : b < w.heap.size := by
  obtain ⟨es, c, h1, _⟩ := h.map
  exact (Array.getElem?_eq_some_iff.1 h1).1
theorem MSet.new {α : Type} (enc : α → Value) (w : World) : MSet enc w.heap.size [] (w.alloc (.map #[] 0)) :=
  ⟨#[], 0, by show (w.heap.push _)[w.heap.size]? = _; simp, stamped_empty 0, by simp⟩
theorem MSet.same {α : Type} {enc : α → Value} {b : Nat} {K : List α} {w w' : World} (h : MSet enc b K w) (e : w'.heap[b]? = w.heap[b]?) : MSet enc b K w' := by
  obtain ⟨es, c, h1, h2⟩ := h.map
  exact ⟨es, c, e.trans h1, h2⟩

/-- what a type of keys must tell -/
structure KeyL {α : Type} (enc : α → Value) (kt : TypeId) : Prop where
  inj : ∀ x y, enc x = enc y → x = y
  check : ∀ x w e, (Instr.checkKey e 10000 kt (enc x)).run Tryz.prog w = .ok () w
  find : ∀ x w (l : List MapEntry) (K : List α), l.map (·.key) = K.map enc → (x ∉ K ∧ (Instr.findKey kt (enc x) l).run Tryz.prog w = .ok none w) ∨ ∃ (j : Nat) (e : MapEntry), (Instr.findKey kt (enc x) l).run Tryz.prog w = .ok (some (j, e.val)) w ∧ l[j]? = some e ∧ e.key = enc x ∧ x ∈ K
  same : ∀ x, Instr.sameBits 10000 (enc x) (enc x) = true

theorem MSet.put {α : Type} [DecidableEq α] {enc : α → Value} {b : Nat} {K : List α} {w : World} {t kt et : TypeId} (h : MSet enc b K w) (L : KeyL enc kt) (hm : Tryz.prog.underlying t = some (.map kt et)) (x : α) (v : Value) :
    ∃ o, (Instr.mapUpdate t (.map (some b)) (enc x) v).run Tryz.prog w = .ok () { w with heap := w.heap.setIfInBounds b o } ∧ MSet enc b (insK K x) { w with heap := w.heap.setIfInBounds b o } := by
  have l := h.low
  obtain ⟨es, c, hb, hst, hks⟩ := h.map
  rcases L.find x w es.toList K hks with ⟨hx, hf⟩ | ⟨j, e, hf, hj, he, hx⟩
  · refine ⟨.map (es.push ⟨enc x, v, c⟩) (c + 1), by simp [Instr.mapUpdate, run_underlying hm, MapKept.run_getObj_map hb, L.check, hf, MapKept.run_setObj_map _ hb, Result.andThen], es.push ⟨enc x, v, c⟩, c + 1, by simp [l], stamped_push hst ?_, ?_⟩
    · intro y hy e
      have : y.key ∈ K.map enc := by rw [← hks]; exact List.mem_map.2 ⟨y, hy, rfl⟩
      obtain ⟨z, hz, e2⟩ := List.mem_map.1 this
      exact hx (L.inj z x (e2.trans e) ▸ hz)
    · rw [insK, if_neg hx]
      simp [hks]
  · have hj' : es[j]? = some e := by simpa using hj
    have hkey : ∀ e', es[j]? = some e' → ({ e' with key := enc x, val := v } : MapEntry).key = e'.key := fun e' he' => by rw [hj'] at he'; cases he'; exact he.symm
    refine ⟨.map (es.modify j fun e => { e with key := enc x, val := v }) c, ?_, es.modify j fun e => { e with key := enc x, val := v }, c, by simp [l], stamped_modify hst _ _ (fun _ _ => rfl) (fun e' _ he' => hkey e' he'), ?_⟩
    · simp [Instr.mapUpdate, run_underlying hm, MapKept.run_getObj_map hb, L.check, hf, hj', he, Instr.keyThatStays, L.same, MapKept.run_setObj_map _ hb, Result.andThen]
    · rw [insK, if_pos hx, ← hks]
      exact modify_keys j _ hkey

/-- a number as a key -/
def encD (p : Int × Int) : Value := .agg #[.int .i64 p.1, .int .i64 p.2]
theorem encD_inj (x y : Int × Int) (h : encD x = encD y) : x = y := by
  obtain ⟨a, b⟩ := x
  obtain ⟨c, d⟩ := y
  simpa [encD] using h

set_option maxRecDepth 20000 in
theorem check_D (x : Int × Int) (w : World) (e : Bool) : (Instr.checkKey e 10000 24 (encD x)).run Tryz.prog w = .ok () w := by
  unfold encD Instr.checkKey
  simp [go_sem]
  have k1 : IsKey (.int .i64) (.int .i64 x.1) := rfl
  have k2 : IsKey (.int .i64) (.int .i64 x.2) := rfl
  rw [run_checkKey Tryz.underlying2 k1 e 9998]
  simp only [Result.andThen]
  rw [run_checkKey Tryz.underlying3 k2 e 9998]

theorem equalInt {t : TypeId} (hu : Tryz.prog.underlying t = some (.int .i64)) (n : Nat) (a b : Int) (w : World) : (Op.equalIn (n + 1) t (.int .i64 a) (.int .i64 b)).run Tryz.prog w = .ok (a == b) w := by
  unfold Op.equalIn
  simp [run_underlying hu, Result.andThen]

set_option maxRecDepth 20000 in
theorem equal_D (x y : Int × Int) (w : World) : (Op.equal 24 (encD x) (encD y)).run Tryz.prog w = .ok (decide (x = y)) w := by
  obtain ⟨a, b⟩ := x
  obtain ⟨c, d⟩ := y
  have e1 := equalInt Tryz.underlying2 9998 a c
  have e2 := equalInt Tryz.underlying3 9998 b d
  have hs : Tryz.prog.stoodInHeld 24 = false := by kernel_rfl
  unfold encD Op.equal
  rw [show Op.maxDepth = 9999 + 1 from rfl]
  unfold Op.equalIn
  simp [go_sem, hs]
  by_cases h1 : a = c <;> by_cases h2 : b = d <;> simp [h1, h2]

theorem asking_D (x : Int × Int) (w : World) : ∀ (l : List MapEntry) (K : List (Int × Int)) (i : Nat), l.map (·.key) = K.map encD →
    (x ∉ K ∧ (Instr.findAsking 24 (encD x) l i).run Tryz.prog w = .ok none w) ∨ ∃ (j : Nat) (e : MapEntry), (Instr.findAsking 24 (encD x) l i).run Tryz.prog w = .ok (some (i + j, e.val)) w ∧ l[j]? = some e ∧ e.key = encD x ∧ x ∈ K
  | [], K, i, h => by
    cases K with
    | nil => exact .inl ⟨by simp, by simp [Instr.findAsking]⟩
    | cons y ys => simp at h
  | e :: es, K, i, h => by
    cases K with
    | nil => simp at h
    | cons y ys =>
      simp only [List.map_cons, List.cons.injEq] at h
      obtain ⟨h1, h2⟩ := h
      by_cases hxy : x = y
      · subst hxy
        exact .inr ⟨0, e, by simp [Instr.findAsking, h1, equal_D, Result.andThen], by simp, h1, by simp⟩
      · rcases asking_D x w es ys (i + 1) h2 with ⟨a1, a2⟩ | ⟨j, e', a1, a2, a3, a4⟩
        · exact .inl ⟨by simp [hxy, a1], by simp [Instr.findAsking, h1, equal_D, Result.andThen, hxy, a2]⟩
        · exact .inr ⟨j + 1, e', by simp [Instr.findAsking, h1, equal_D, Result.andThen, hxy, a1]; omega, by simpa using a2, a3, by simp [a4]⟩

theorem find_D (x : Int × Int) (w : World) (l : List MapEntry) (K : List (Int × Int)) (h : l.map (·.key) = K.map encD) :
    (x ∉ K ∧ (Instr.findKey 24 (encD x) l).run Tryz.prog w = .ok none w) ∨ ∃ (j : Nat) (e : MapEntry), (Instr.findKey 24 (encD x) l).run Tryz.prog w = .ok (some (j, e.val)) w ∧ l[j]? = some e ∧ e.key = encD x ∧ x ∈ K := by
  have key : ∀ l' : List MapEntry, l' ≠ [] → ∀ fs, Instr.findNow (.struct fs) (encD x) l' 0 = none := by
    intro l' hne fs
    cases l' with
    | nil => exact absurd rfl hne
    | cons e es => simp [Instr.findNow, Instr.sameNow]
  rcases asking_D x w l K 0 h with ⟨a1, a2⟩ | ⟨j, e', a1, a2, a3, a4⟩
  · refine .inl ⟨a1, ?_⟩
    cases l with
    | nil => simp [Instr.findKey, go_sem, Instr.findNow]
    | cons e es => simp [Instr.findKey, go_sem, key (e :: es) (by simp), a2]
  · refine .inr ⟨j, e', ?_, a2, a3, a4⟩
    have hne : l ≠ [] := by rintro rfl; simp at a2
    simpa [Instr.findKey, go_sem, key l hne] using a1

theorem keyL_D : KeyL encD 24 where
  inj := encD_inj
  check := check_D
  find := find_D
  same x := by simp [encD, Instr.sameBits]

/-- a text as a key -/
theorem keyL_T : KeyL Value.string 9 where
  inj x y h := by simpa using h
  check x w e := run_checkKey Tryz.underlying9 (show IsKey .string (.string x) from trivial) e 9999
  find x w l K h := by
    have hk : IsKey .string (.string x) := trivial
    have hl : ∀ y ∈ l, IsKey .string y.key := by
      intro y hy
      have : y.key ∈ K.map Value.string := by rw [← h]; exact List.mem_map.2 ⟨y, hy, rfl⟩
      obtain ⟨z, _, e⟩ := List.mem_map.1 this
      rw [← e]
      trivial
    rcases findNow_spec hk l 0 hl with ⟨h1, hno⟩ | ⟨j, e, h1, h2, h3⟩
    · refine .inl ⟨fun hx => ?_, run_findKey Tryz.underlying9 h1⟩
      have : Value.string x ∈ l.map (·.key) := by rw [h]; exact List.mem_map.2 ⟨x, hx, rfl⟩
      obtain ⟨y, hy, e⟩ := List.mem_map.1 this
      exact hno y hy e
    · refine .inr ⟨j, e, by simpa using run_findKey (w := w) Tryz.underlying9 h1, h2, h3, ?_⟩
      have : e.key ∈ K.map Value.string := by rw [← h]; exact List.mem_map.2 ⟨e, List.mem_of_getElem? h2, rfl⟩
      obtain ⟨z, hz, e2⟩ := List.mem_map.1 this
      rw [h3] at e2
      have := Value.string.inj e2
      subst this
      exact hz
  same x := by simp [Instr.sameBits, bytes_beq]
end Go.Proofs.YtdkgapapdjefdaaGreatDoor
