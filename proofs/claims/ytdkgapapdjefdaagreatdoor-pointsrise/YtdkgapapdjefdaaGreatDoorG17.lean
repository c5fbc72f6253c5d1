/- A walk over a map's keys, one by one, in whatever order. -/
import Derived.Test.YtdkgapapdjefdaaGreatDoorG12
import Derived.RangeFuncGives
import Derived.Sort.MapsRangeIn
import Derived.Maps.OwnIn
import Derived.WalkKit
import Derived.OwnWalkIn
import Derived.TacticsInMore
import Derived.RegionIn
import Derived.LoopNIn
import Derived.LoopIn
namespace Go.Proofs.YtdkgapapdjefdaaGreatDoor
open Go.RowKit Go.MapKept
open Go.ChangeMaps (setBlock)

/-- an iterator at block r over the map at block b: these entries have come -/
structure ItM (es : Array MapEntry) (c b r : Nat) (ps : List MapEntry) (w : World) : Prop where
  map : w.heap[b]? = some (.map es c)
  it : ∃ seen c0, w.heap[r]? = some (.mapIter (some b) c seen c0) ∧ seen.toList = ps.map (·.born) ∧ c ≤ c0
  sub : ∀ x ∈ ps, x ∈ es.toList
  nd : ps.Nodup

theorem ItM.walks {es : Array MapEntry} {c b r : Nat} {ps : List MapEntry} {w w' : World} (h : ItM es c b r ps w) (k : KeepsWalks w w') : ItM es c b r ps w' := by
  obtain ⟨seen, c0, h1, h2, h3⟩ := h.it
  exact ⟨k.same b _ h.map rfl, ⟨seen, c0, k.same r _ h1 rfl, h2, h3⟩, h.sub, h.nd⟩
theorem ItM.left {es : Array MapEntry} {c b r : Nat} {ps : List MapEntry} {w : World} (h : ItM es c b r ps w) : ∃ seen, seen.toList = ps.map (·.born) ∧ w.rangeLeft b r = (leftOf es seen).size := by
  obtain ⟨seen, c0, h1, h2, h3⟩ := h.it
  exact ⟨seen, h2, by simp [World.rangeLeft, h.map, h1]⟩
theorem ItM.walk {es : Array MapEntry} {c b r : Nat} {ps : List MapEntry} {w : World} (h : ItM es c b r ps w) : ∃ o : Obj, w.heap[r]? = some o ∧ o.isWalk = true := by
  obtain ⟨seen, c0, h1, h2, h3⟩ := h.it
  exact ⟨_, h1, rfl⟩
theorem ItM.perm {es : Array MapEntry} {c b r : Nat} {ps : List MapEntry} {w : World} (h : ItM es c b r ps w) (all : ∀ x ∈ es.toList, x ∈ ps) (hst : Stamped es c) : ps.Perm es.toList := by
  have hn : es.toList.Nodup := (List.pairwise_map.1 hst.2.1).imp fun h e => h (by rw [e])
  exact (List.perm_ext_iff_of_nodup h.nd hn).2 fun x => ⟨h.sub x, all x⟩

theorem born_mem {es : Array MapEntry} {c : Nat} (hst : Stamped es c) {ps : List MapEntry} (hs : ∀ x ∈ ps, x ∈ es.toList) {x : MapEntry} (hx : x ∈ es.toList) (h : x.born ∈ ps.map (·.born)) : x ∈ ps := by
  obtain ⟨y, hy, e⟩ := List.mem_map.1 h
  have hy' := hs y hy
  obtain ⟨i, hi⟩ := List.getElem?_of_mem hx
  obtain ⟨j, hj⟩ := List.getElem?_of_mem hy'
  have li : i < (es.toList.map (·.born)).length := by simpa using (List.getElem?_eq_some_iff.1 hi).1
  have q : (es.toList.map (·.born))[i]? = (es.toList.map (·.born))[j]? := by simp only [List.getElem?_map, hi, hj, Option.map_some, e]
  have := (List.getElem?_inj li hst.2.1).1 q
  subst this
  rw [hi] at hj
  cases hj
  exact hy

theorem ItM.next {es : Array MapEntry} {c b r : Nat} {ps : List MapEntry} {w : World} (h : ItM es c b r ps w) (hst : Stamped es c) (ty : TypeId) :
    ((∀ x ∈ es.toList, x ∈ ps) ∧ (Instr.next (.pointer (some ⟨r, 0, none⟩)) false ty).run Tryz.prog w = .ok (.tuple #[.bool false]) w) ∨
    ∃ e w', e ∈ es.toList ∧ (Instr.next (.pointer (some ⟨r, 0, none⟩)) false ty).run Tryz.prog w = .ok (.tuple #[.bool true, e.key, e.val]) w' ∧ ItM es c b r (ps ++ [e]) w' ∧ w.grownBy w' (some r) ∧ w'.heap.size = w.heap.size ∧ w'.rangeLeft b r < w.rangeLeft b r ∧ (Instr.entry (.pointer (some ⟨r, 0, none⟩))).run Tryz.prog w' = .ok (.tuple #[e.key, e.val]) w' := by
  obtain ⟨seen, c0, h1, h2, h3⟩ := h.it
  have hne : r ≠ b := by rintro rfl; rw [h.map] at h1; cases h1
  rcases run_next_at (P := Tryz.prog) w ty r b c c0 seen es c h1 h.map hst.1 h3 with ⟨h0, hrun⟩ | ⟨e, he, w1, hal, hrun⟩
  · refine Or.inl ⟨fun x hx => born_mem hst h.sub hx ?_, hrun⟩
    have := all_seen es seen h0 x hx
    rw [← h2]
    simpa using this
  · obtain ⟨hem, hes⟩ := mem_left he
    have hr1 : w1.heap[r]? = some (.mapIter (some b) c seen c0) := by rcases hal with rfl | rfl <;> exact h1
    have hb1 : w1.heap[b]? = some (.map es c) := by rcases hal with rfl | rfl <;> exact h.map
    have hset := heap_set (o' := .mapIter (some b) c (seen.push e.born) c) hr1
    have hb' : (setBlock w1 r (.mapIter (some b) c (seen.push e.born) c)).heap[b]? = some (.map es c) := (hset.2 b (fun e1 => hne e1.symm)).trans hb1
    refine Or.inr ⟨e, _, hem, hrun, ⟨hb', ⟨seen.push e.born, c, hset.1, by simp [h2], Nat.le_refl _⟩, ?_, ?_⟩, ?_, ?_, ?_, run_entry_at _ r b c seen es c e hset.1 hb' hem hst.2.1⟩
    · intro x hx
      rcases List.mem_append.1 hx with hx | hx
      · exact h.sub x hx
      · rw [List.mem_singleton.1 hx]
        exact hem
    · rw [List.nodup_append]
      refine ⟨h.nd, by simp, fun x hx y hy => ?_⟩
      rw [List.mem_singleton.1 hy]
      rintro rfl
      have : x.born ∈ seen.toList := by rw [h2]; exact List.mem_map.2 ⟨x, hx, rfl⟩
      have : seen.contains x.born = true := by simpa using this
      rw [hes] at this
      cases this
    · rcases hal with rfl | rfl <;> exact ⟨rfl, rfl, rfl, by simp [setBlock], fun i _ hi => hset.2 i (fun e1 => hi (by rw [e1]))⟩
    · rcases hal with rfl | rfl <;> simp [setBlock]
    · have q : (setBlock w1 r (.mapIter (some b) c (seen.push e.born) c)).heap[r]? = _ := hset.1
      simp only [World.rangeLeft, hb', q, h.map, h1]
      exact left_shrinks es seen e he

section
variable {F : Fence} {nF : Nat} (w : World) {ops : Array Oper} {rest : List Oper} {o : Oper} {a : Act} {Q : Exit → Act → World → Prop}
theorem wpIn_range_map (hg : o.guard = none) (m : Operand) (t k et : TypeId) (hop : o.op = Op.range t m) (ht : Tryz.prog.underlying t = some (.map k et)) {es : Array MapEntry} {c b : Nat} (hm : a.eval m = .map (some b)) (hb : w.heap[b]? = some (.map es c))
    (hK : ∀ w', ItM es c b w.heap.size [] w' → w.grownBy w' none → w'.heap.size = w.heap.size + 1 → wpListIn F nF Tryz.prog ops Q rest (a.put o.dst (.pointer (some ⟨w.heap.size, 0, none⟩))) w') :
    wpListIn F nF Tryz.prog ops Q (o :: rest) a w := by
  refine wpListIn_plain hg fun K' hK' => ?_
  unfold Oper.wpIn
  refine ⟨by simp [Oper.about, hop], ?_⟩
  rw [Oper.semAt_plain F _ _ (by rw [hop]; intro c hc'; cases hc')]
  simp [execOp, hop, hm, run_range_map w t k et b es c ht hb, Result.andThen]
  refine hK' _ _ (hK _ ?_ ?_ (by simp))
  · exact ⟨(Below.heap_alloc w _ b (Array.getElem?_eq_some_iff.1 hb).1).trans hb, ⟨#[], c, by show (w.heap.push _)[w.heap.size]? = _; simp, rfl, Nat.le_refl _⟩, by simp, by simp⟩
  · exact ⟨rfl, rfl, rfl, by simp, fun i hi _ => Below.heap_alloc w _ i hi⟩

theorem wpIn_next_map (hg : o.guard = none) (it : Operand) (hop : o.op = Op.next it false) {es : Array MapEntry} {c b r : Nat} {ps : List MapEntry} (hst : Stamped es c) (hit : a.eval it = .pointer (some ⟨r, 0, none⟩)) (h : ItM es c b r ps w)
    (hDone : (∀ x ∈ es.toList, x ∈ ps) → wpListIn F nF Tryz.prog ops Q rest (a.put o.dst (.tuple #[.bool false])) w)
    (hMore : ∀ e w', e ∈ es.toList → ItM es c b r (ps ++ [e]) w' → w.grownBy w' (some r) → w'.heap.size = w.heap.size → w'.rangeLeft b r < w.rangeLeft b r → (Instr.entry (.pointer (some ⟨r, 0, none⟩))).run Tryz.prog w' = .ok (.tuple #[e.key, e.val]) w' → wpListIn F nF Tryz.prog ops Q rest (a.put o.dst (.tuple #[.bool true, e.key, e.val])) w') :
    wpListIn F nF Tryz.prog ops Q (o :: rest) a w := by
  refine wpListIn_plain hg fun K' hK' => ?_
  unfold Oper.wpIn
  refine ⟨by simp [Oper.about, hop], ?_⟩
  rw [Oper.semAt_plain F _ _ (by rw [hop]; intro c hc'; cases hc')]
  rcases h.next hst o.type with ⟨hl, hrun⟩ | ⟨e, w', he, hrun, h1, h2, h3, h4, h5⟩
  · simp [execOp, hop, hit, hrun, Result.andThen]
    exact hK' _ _ (hDone hl)
  · simp [execOp, hop, hit, hrun, Result.andThen]
    exact hK' _ _ (hMore e w' he h1 h2 h3 h4 h5)
end

/-- a key's number, read back -/
def decD : Value → Int × Int
  | .agg u => (intOf (u[0]?.getD undef), intOf (u[1]?.getD undef))
  | _ => (0, 0)
theorem decD_enc (x : Int × Int) : decD (encD x) = x := by simp [decD, encD, intOf]
def decT : Value → ByteArray
  | .string s => s
  | _ => ⟨#[]⟩
theorem decT_enc (x : ByteArray) : decT (.string x) = x := rfl
theorem perm_back {α : Type} {enc : α → Value} {dec : Value → α} (h : ∀ x, dec (enc x) = x) {l k : List α} (p : (l.map enc).Perm (k.map enc)) : l.Perm k := by
  have := p.map dec
  simpa [List.map_map, Function.comp_def, h] using this
end Go.Proofs.YtdkgapapdjefdaaGreatDoor

/- maps.Keys of a map of numbers, and what it hands to a loop; slices.AppendSeq, slices.Collect. -/
namespace Go.Proofs.YtdkgapapdjefdaaGreatDoor
open Go.RowKit Go.MapKept

theorem ItM.left_eq {es : Array MapEntry} {c b r : Nat} {ps : List MapEntry} {w w' : World} (h : ItM es c b r ps w) (h' : ItM es c b r ps w') : w'.rangeLeft b r = w.rangeLeft b r := by
  obtain ⟨s, h1, h2⟩ := h.left
  obtain ⟨s', h3, h4⟩ := h'.left
  have : s = s' := Array.toList_inj.1 (h1.trans h3.symm)
  rw [h2, h4, this]

set_option maxRecDepth 100000 in
set_option maxHeartbeats 1000000 in
theorem keysD_loop (n l Bm b : Nat) (K : List (Int × Int)) (J : List (Int × Int) → World → Prop)
    (hY : ∀ pre x W, J pre W → pre.length < K.length → YieldAt Fence.wide n Tryz.prog l #[encD x] W fun e W' => e = .returned (.bool true) ∧ J (pre ++ [x]) W' ∧ KeepsWalks W W')
    (W : World) (hJ : AbidesFrom W.heap.size J) (hm : W.cell? ⟨Bm, 0, none⟩ = some (.map (some b))) (hown : MSet encD b K W) (h0 : J [] W) :
    CallsIn Fence.wide (n + 1) Tryz.prog 75 #[.func (.yield l) #[] #[], .pointer (some ⟨Bm, 0, none⟩)] W fun e W' => (∃ v, e = .returned v) ∧ ∃ ss : List (Int × Int), ss.Perm K ∧ J ss W' := by
  obtain ⟨es, c, hb, hst, hks⟩ := hown.map
  refine callsIn_of_wp Tryz.func75 rfl trivial ?_ rfl
  simp only [Tryz.ntmps75, List.size_toArray, List.length_cons, List.length_nil, Nat.reduceAdd, Nat.reduceSub, Array.replicate_succ, Array.replicate_zero, List.push_toArray, List.append_toArray, List.nil_append, List.cons_append]
  gi_wp2_with (first
    | (gi_at_range; refine wpIn_range_map _ rfl _ _ _ _ rfl Tryz.underlying73 rfl hb ?_; intro w0 hrg0 hg0 hs0)
    | gi_in)
  go_frame
  gi_loopw [3] (fun _ wr => ∃ (ps : List MapEntry) (ss : List (Int × Int)), ItM es c b W.heap.size ps wr ∧ ps.map (·.key) = ss.map encD ∧ J ss wr)
    (fun _ wr => wr.rangeLeft b W.heap.size)
  case atStart =>
    exact ⟨[], [], hrg0, rfl, hJ [] W w0 none h0 hg0 (fun r e => by cases e)⟩
  case round =>
    obtain ⟨ps, ss, hrg, hC, hJs⟩ := hrel
    gi_wp2_with (first
      | (gi_at_next; refine wpIn_next_map _ rfl _ rfl hst rfl hrg ?_ ?_)
      | gi_in)
    · intro hl0
      have H := hide (hrg.perm (fun x hx => hl0 x (by simpa using hx)) hst)
      clear hl0
      gi_wp2
      go_end0
      exact ⟨⟨_, rfl⟩, ss, perm_back decD_enc (by rw [← hC, ← hks]; exact (unhide H).map _), hJs⟩
    · intro e w2 he hrg2 hg2 hs2 hlt hen
      have he : e ∈ es.toList := by simpa using he
      have hek : ∃ x : Int × Int, e.key = encD x := by
        have : e.key ∈ K.map encD := by rw [← hks]; exact List.mem_map.2 ⟨e, he, rfl⟩
        obtain ⟨x, _, q⟩ := List.mem_map.1 this
        exact ⟨x, q.symm⟩
      obtain ⟨x, hx⟩ := hek
      have hlen : ss.length < K.length := by
        have h1 : (ps ++ [e]).length ≤ es.toList.length := hrg2.nd.length_le_of_subset (fun y hy => hrg2.sub y hy)
        have h2 := congrArg List.length hC
        have h3 := congrArg List.length hks
        simp at h1 h2 h3
        omega
      have hJ2 : J ss w2 := hJ ss wr w2 (some W.heap.size) hJs hg2 (fun r e => by cases e; exact ⟨Nat.le_refl _, hrg.walk⟩)
      rw [hx] at hen ⊢
      have hen' : (Instr.entry (.pointer (some ⟨W.heap.size, 0, none⟩))).run Tryz.prog w2 = .ok (.tuple #[.agg #[.int .i64 x.1, .int .i64 x.2], e.val]) w2 := hen
      have hx' := hide hx
      clear hen he hx
      obtain ⟨fn, tmps, assign, body, hy, hR⟩ : YieldAt Fence.wide n Tryz.prog l #[.agg #[.int .i64 x.1, .int .i64 x.2]] (w2.alloc (.cells #[.int .i64 x.1, .int .i64 x.2] 24)) fun e W' => e = .returned (.bool true) ∧ J (ss ++ [x]) W' ∧ KeepsWalks (w2.alloc (.cells #[.int .i64 x.1, .int .i64 x.2] 24)) W' :=
        hY ss x _ (hJ ss w2 _ none hJ2 ⟨rfl, rfl, rfl, by simp, fun i hi _ => Below.heap_alloc w2 _ i hi⟩ (fun r e => by cases e)) hlen
      gi_wp2
      refine hR.mono ?_
      rintro e' W3 ⟨rfl, hJ3, hk3⟩
      gi_wp2
      have hrg3 := hrg2.walks ((KeepsWalks.alloc w2 _).trans hk3)
      go_roundw
      case rel => exact ⟨ps ++ [e], ss ++ [x], hrg3, by rw [List.map_append, List.map_append, hC]; simp [unhide hx'], hJ3⟩
      case measure => rw [hrg2.left_eq hrg3]; exact hlt

theorem keysD_gives (n Bm b : Nat) (K : List (Int × Int)) (w : World) (hBm : Bm < w.heap.size) (hm : w.cell? ⟨Bm, 0, none⟩ = some (.map (some b))) (hown : MSet encD b K w) :
    SeqGives Fence.wide (n + 1) Tryz.prog 75 #[.pointer (some ⟨Bm, 0, none⟩)] encD (fun ss => ss.Perm K) K.length w := fun l J W hW hJ hY h0 =>
  keysD_loop n l Bm b K J hY W hJ ((hW.cell (p := ⟨Bm, 0, none⟩) hBm).trans hm) (hown.same (hW.block b hown.low)) h0

set_option maxHeartbeats 1000000 in
theorem keysD_any (mb : Option Nat) (w : World) :
    Calls Tryz.prog 38 #[.map mb] w fun e w' => e = .returned (.func (.func 75) #[] #[.pointer (some ⟨w.heap.size, 0, none⟩)]) ∧ w' = w.alloc (.cells #[.map mb] 73) := by
  go_enter Tryz.func38, Tryz.ntmps38
  go_wp2
  go_ret
  exact ⟨rfl, rfl⟩
end Go.Proofs.YtdkgapapdjefdaaGreatDoor

/- maps.Keys of a map of texts, and what it hands to a loop. -/
namespace Go.Proofs.YtdkgapapdjefdaaGreatDoor
open Go.RowKit Go.MapKept

set_option maxRecDepth 100000 in
set_option maxHeartbeats 1000000 in
theorem keysT_loop (n l Bm b : Nat) (K : List ByteArray) (J : List ByteArray → World → Prop)
    (hY : ∀ pre x W, J pre W → pre.length < K.length → YieldAt Fence.wide n Tryz.prog l #[Value.string x] W fun e W' => e = .returned (.bool true) ∧ J (pre ++ [x]) W' ∧ KeepsWalks W W')
    (W : World) (hJ : AbidesFrom W.heap.size J) (hm : W.cell? ⟨Bm, 0, none⟩ = some (.map (some b))) (hown : MSet Value.string b K W) (h0 : J [] W) :
    CallsIn Fence.wide (n + 1) Tryz.prog 81 #[.func (.yield l) #[] #[], .pointer (some ⟨Bm, 0, none⟩)] W fun e W' => (∃ v, e = .returned v) ∧ ∃ ss : List ByteArray, ss.Perm K ∧ J ss W' := by
  obtain ⟨es, c, hb, hst, hks⟩ := hown.map
  refine callsIn_of_wp Tryz.func81 rfl trivial ?_ rfl
  simp only [Tryz.ntmps81, List.size_toArray, List.length_cons, List.length_nil, Nat.reduceAdd, Nat.reduceSub, Array.replicate_succ, Array.replicate_zero, List.push_toArray, List.append_toArray, List.nil_append, List.cons_append]
  gi_wp2_with (first
    | (gi_at_range; refine wpIn_range_map _ rfl _ _ _ _ rfl Tryz.underlying82 rfl hb ?_; intro w0 hrg0 hg0 hs0)
    | gi_in)
  go_frame
  gi_loopw [3] (fun _ wr => ∃ (ps : List MapEntry) (ss : List ByteArray), ItM es c b W.heap.size ps wr ∧ ps.map (·.key) = ss.map Value.string ∧ J ss wr)
    (fun _ wr => wr.rangeLeft b W.heap.size)
  case atStart =>
    exact ⟨[], [], hrg0, rfl, hJ [] W w0 none h0 hg0 (fun r e => by cases e)⟩
  case round =>
    obtain ⟨ps, ss, hrg, hC, hJs⟩ := hrel
    gi_wp2_with (first
      | (gi_at_next; refine wpIn_next_map _ rfl _ rfl hst rfl hrg ?_ ?_)
      | gi_in)
    · intro hl0
      have H := hide (hrg.perm (fun x hx => hl0 x (by simpa using hx)) hst)
      clear hl0
      gi_wp2
      go_end0
      exact ⟨⟨_, rfl⟩, ss, perm_back decT_enc (by rw [← hC, ← hks]; exact (unhide H).map _), hJs⟩
    · intro e w2 he hrg2 hg2 hs2 hlt hen
      have he : e ∈ es.toList := by simpa using he
      have hek : ∃ x : ByteArray, e.key = Value.string x := by
        have : e.key ∈ K.map Value.string := by rw [← hks]; exact List.mem_map.2 ⟨e, he, rfl⟩
        obtain ⟨x, _, q⟩ := List.mem_map.1 this
        exact ⟨x, q.symm⟩
      obtain ⟨x, hx⟩ := hek
      have hlen : ss.length < K.length := by
        have h1 : (ps ++ [e]).length ≤ es.toList.length := hrg2.nd.length_le_of_subset (fun y hy => hrg2.sub y hy)
        have h2 := congrArg List.length hC
        have h3 := congrArg List.length hks
        simp at h1 h2 h3
        omega
      have hJ2 : J ss w2 := hJ ss wr w2 (some W.heap.size) hJs hg2 (fun r e => by cases e; exact ⟨Nat.le_refl _, hrg.walk⟩)
      rw [hx] at hen ⊢
      have hen' : (Instr.entry (.pointer (some ⟨W.heap.size, 0, none⟩))).run Tryz.prog w2 = .ok (.tuple #[.string x, e.val]) w2 := hen
      have hx' := hide hx
      clear hen he hx
      obtain ⟨fn, tmps, assign, body, hy, hR⟩ := hY ss x w2 hJ2 hlen
      gi_wp2
      refine hR.mono ?_
      rintro e' W3 ⟨rfl, hJ3, hk3⟩
      gi_wp2
      have hrg3 := hrg2.walks hk3
      go_roundw
      case rel => exact ⟨ps ++ [e], ss ++ [x], hrg3, by rw [List.map_append, List.map_append, hC]; simp [unhide hx'], hJ3⟩
      case measure => rw [hrg2.left_eq hrg3]; exact hlt

theorem keysT_gives (n Bm b : Nat) (K : List ByteArray) (w : World) (hBm : Bm < w.heap.size) (hm : w.cell? ⟨Bm, 0, none⟩ = some (.map (some b))) (hown : MSet Value.string b K w) :
    SeqGives Fence.wide (n + 1) Tryz.prog 81 #[.pointer (some ⟨Bm, 0, none⟩)] Value.string (fun ss => ss.Perm K) K.length w := fun l J W hW hJ hY h0 =>
  keysT_loop n l Bm b K J hY W hJ ((hW.cell (p := ⟨Bm, 0, none⟩) hBm).trans hm) (hown.same (hW.block b hown.low)) h0

set_option maxHeartbeats 1000000 in
theorem keysT_any (mb : Option Nat) (w : World) :
    Calls Tryz.prog 42 #[.map mb] w fun e w' => e = .returned (.func (.func 81) #[] #[.pointer (some ⟨w.heap.size, 0, none⟩)]) ∧ w' = w.alloc (.cells #[.map mb] 82) := by
  go_enter Tryz.func42, Tryz.ntmps42
  go_wp2
  go_ret
  exact ⟨rfl, rfl⟩
end Go.Proofs.YtdkgapapdjefdaaGreatDoor
