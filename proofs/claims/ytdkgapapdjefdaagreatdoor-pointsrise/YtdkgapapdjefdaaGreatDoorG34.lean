/- Plain words: what stands in a set, rising; the numbers that stand for all. -/
import Derived.Test.YtdkgapapdjefdaaGreatDoorG33
import Derived.Test.YtdkgapapdjefdaaGreatDoorG27
import Derived.Test.YtdkgapapdjefdaaGreatDoorG02
import Derived.Test.YtdkgapapdjefdaaGreatDoorG25
import Derived.Carry
namespace Go.Proofs.YtdkgapapdjefdaaGreatDoor
open Go.RowKit Go.MapKept Go.Sort

theorem insK_mem {α : Type} [DecidableEq α] (K : List α) (x y : α) : y ∈ insK K x ↔ y ∈ K ∨ y = x := by
  unfold insK
  split
  · rename_i h
    constructor
    · exact Or.inl
    · rintro (q | rfl)
      · exact q
      · exact h
  · simp
theorem insK_nodup {α : Type} [DecidableEq α] {K : List α} (h : K.Nodup) (x : α) : (insK K x).Nodup := by
  unfold insK
  split
  · exact h
  · rename_i hx
    rw [List.nodup_append]
    exact ⟨h, by simp, fun a ha b hb => by rw [List.mem_singleton.1 hb]; rintro rfl; exact hx ha⟩
theorem insK_len {α : Type} [DecidableEq α] (K : List α) (x : α) : (insK K x).length ≤ K.length + 1 := by
  unfold insK
  split <;> simp
theorem insF_mem {α : Type} [DecidableEq α] : ∀ (l K : List α) (y : α), y ∈ l.foldl insK K ↔ y ∈ K ∨ y ∈ l
  | [], K, y => by simp
  | x :: l, K, y => by rw [List.foldl_cons, insF_mem l, insK_mem, List.mem_cons]; grind
theorem insF_nodup {α : Type} [DecidableEq α] : ∀ (l K : List α), K.Nodup → (l.foldl insK K).Nodup
  | [], K, h => h
  | x :: l, K, h => by rw [List.foldl_cons]; exact insF_nodup l _ (insK_nodup h x)
theorem insF_len {α : Type} [DecidableEq α] : ∀ (l K : List α), (l.foldl insK K).length ≤ K.length + l.length
  | [], K => by simp
  | x :: l, K => by rw [List.foldl_cons]; have := insF_len l (insK K x); have := insK_len K x; simp; omega
theorem insV_flat {α : Type} [DecidableEq α] (f : Tree → List α) : ∀ (vs : List Tree) (K : List α), insV f K vs = (vs.flatMap f).foldl insK K
  | [], K => rfl
  | v :: vs, K => by
    have : insV f K (v :: vs) = insV f ((f v).foldl insK K) vs := rfl
    rw [this, insV_flat f vs, List.flatMap_cons, List.foldl_append]

/-- the edges of a list of tests: numbers, texts -/
def numE (ts : List TS) : List (Int × Int) := sortN (insV numV [] (valsL ts))
def txtE (ts : List TS) : List ByteArray := sortT (insV txtV [] (valsL ts))

theorem numE_mem (ts : List TS) (p : Int × Int) : p ∈ numE ts ↔ ∃ v ∈ valsL ts, p ∈ numV v := by
  unfold numE sortN
  rw [(List.mergeSort_perm _ _).mem_iff, insV_flat, insF_mem]
  simp
theorem txtE_mem (ts : List TS) (p : ByteArray) : p ∈ txtE ts ↔ ∃ v ∈ valsL ts, p ∈ txtV v := by
  unfold txtE sortT
  rw [(List.mergeSort_perm _ _).mem_iff, insV_flat, insF_mem]
  simp
theorem numE_rise (ts : List TS) (hr : ∀ p ∈ numE ts, Dm.wrongN p.1 p.2 = 0) : (numE ts).Pairwise (fun x y => vR x < vR y) := by
  have hp : (numE ts).Pairwise (fun x y => decide (vR x ≤ vR y) = true) := List.pairwise_mergeSort (fun a b c h1 h2 => by simp at *; omega) (fun a b => by simp; omega) _
  have hn : (numE ts).Nodup := (List.mergeSort_perm _ _).nodup_iff.2 (by rw [insV_flat]; exact insF_nodup _ _ (by simp))
  have h3 := hp.and hn
  refine List.Pairwise.imp_of_mem ?_ h3
  intro a b ha hb h
  have h1 : vR a ≤ vR b := by simpa using h.1
  rcases Int.lt_or_eq_of_le h1 with q | q
  · exact q
  · have := Dm.V_inj (hr a ha) (hr b hb) q
    exact absurd (Prod.ext this.1 this.2) h.2
theorem txtE_rise (ts : List TS) : (txtE ts).Pairwise (fun x y => bl x y = true) := by
  have hp : (txtE ts).Pairwise (fun x y => (!bl y x) = true) := List.pairwise_mergeSort (fun a b c h1 h2 => by
    simp at *
    have := swoT.ntrans c b a (by rw [ltT]; exact h2) (by rw [ltT]; exact h1)
    rwa [ltT] at this) (fun a b => by
    rcases bl_tri a b with ⟨h1, h2, _⟩ | ⟨h1, h2, _⟩ | ⟨h1, h2, _⟩ <;> simp [h1, h2]) _
  have hn : (txtE ts).Nodup := (List.mergeSort_perm _ _).nodup_iff.2 (by rw [insV_flat]; exact insF_nodup _ _ (by simp))
  refine (hp.and hn).imp ?_
  intro a b h
  have h1 : bl b a = false := by simpa using h.1
  rcases bl_tri a b with ⟨q, _⟩ | ⟨_, q, _⟩ | ⟨_, _, q⟩
  · exact q
  · rw [h1] at q; cases q
  · exact absurd q h.2
end Go.Proofs.YtdkgapapdjefdaaGreatDoor

/- edgesOf numbers. -/
namespace Go.Proofs.YtdkgapapdjefdaaGreatDoor
open Go.RowKit Go.MapKept Go.Sort

theorem sortN_perm {l k : List (Int × Int)} (h : l.Perm k) (hr : ∀ p ∈ k, Dm.wrongN p.1 p.2 = 0) : sortN l = sortN k := by
  unfold sortN
  have t1 : ∀ a b c : Int × Int, decide (vR a ≤ vR b) = true → decide (vR b ≤ vR c) = true → decide (vR a ≤ vR c) = true := fun a b c h1 h2 => by simp at *; omega
  have t2 : ∀ a b : Int × Int, (decide (vR a ≤ vR b) || decide (vR b ≤ vR a)) = true := fun a b => by simp; omega
  refine List.Perm.eq_of_pairwise ?_ (List.pairwise_mergeSort t1 t2 l) (List.pairwise_mergeSort t1 t2 k) (((List.mergeSort_perm _ _).trans h).trans (List.mergeSort_perm _ _).symm)
  intro a b ha hb h1 h2
  have ha' : a ∈ k := h.mem_iff.1 ((List.mergeSort_perm _ _).mem_iff.1 ha)
  have hb' : b ∈ k := (List.mergeSort_perm _ _).mem_iff.1 hb
  have q : vR a = vR b := by simp at h1 h2; omega
  have := Dm.V_inj (hr a ha') (hr b hb') q
  exact Prod.ext this.1 this.2
theorem ownsRow_base9 {W : World} {base base' : Nat} {e : TypeId} {size : Nat} {v : Value} {k : Nat} {xs : List Value} (h : W.ownsRow base e size v k xs) (hb : base' ≤ base) : W.ownsRow base' e size v k xs := by
  refine ⟨h.1, ?_⟩
  rcases h.2 with hn | ⟨g, cap, cur, hv, hbg, rest⟩
  · exact .inl hn
  · exact .inr ⟨g, cap, cur, hv, Nat.le_trans hb hbg, rest⟩

theorem enterKeysD : ∀ args w, (callFunc 75 args).run Tryz.prog w = .ok (.enter 75 args) w := enters_of Tryz.func75 (by kernel_rfl) rfl

set_option maxRecDepth 100000 in
set_option maxHeartbeats 8000000 in
theorem edgesD_any (ts : List TS) (v : Value) (B : Nat) (w : World) (hB : B ≤ w.heap.size) (hv : SlT B w ts v) (hr : ∀ p ∈ numE ts, Dm.wrongN p.1 p.2 = 0) (hN : (numE ts).length ≤ 1000000000) :
    Calls Tryz.prog 15 #[v, .func (.func 16) #[] #[], .func (.func 17) #[] #[]] w fun e w' =>
      ∃ u, e = .returned u ∧ w'.ownsRow w.heap.size 24 2 u (numE ts).length (flatD (numE ts)) ∧ (u = .slice none 0 0 ↔ numE ts = []) ∧ Below w.heap.size w w' := by
  obtain ⟨hl, ad, cap, rfl, hm⟩ := hv
  have hm' := hide hm
  obtain ⟨W0, hW0⟩ : ∃ W0, W0 = (((w.alloc (.cells #[.func (.func 16) #[] #[]] 48)).alloc (.map #[] 0)).alloc (.cells #[.map (some (w.heap.size + 1))] 73)) := ⟨_, rfl⟩
  have NB : Hid (Below w.heap.size w W0) := hide (by rw [hW0]; exact (((Below.refl _ w).alloc (Nat.le_refl _) _).alloc (by simp) _).alloc (by simp; omega) _)
  have S1 : Hid (SeeM encD 16 w.heap.size (w.heap.size + 2) (w.heap.size + 1) B [] W0) := hide (by
    rw [hW0]
    refine ⟨by simp [go_sem], by simp [go_sem], ?_, by omega, by omega, by omega⟩
    have := MSet.new encD (w.alloc (.cells #[.func (.func 16) #[] #[]] 48))
    simp only [World.size_alloc] at this
    exact this.same (Below.heap_alloc _ _ _ (by simp)))
  clear hm
  go_enter Tryz.func15, Tryz.ntmps15
  have hmm := @run_makeMap Tryz.prog
  go_wp2
  rw [← hW0]
  clear hW0 hmm
  go_loopw [15] (fun i wr => ∃ m : Nat, m ≤ ts.length ∧ i = .int .i64 (m : Int) ∧ Hid (Below w.heap.size w wr) ∧ Hid (SeeM encD 16 w.heap.size (w.heap.size + 2) (w.heap.size + 1) B (insV numV [] (valsL (ts.take m))) wr)) (fun i _ => ts.length - (intOf i).toNat)
  case atStart => exact ⟨0, Nat.zero_le _, rfl, NB, by simpa [valsL, insV] using S1⟩
  case round =>
    obtain ⟨m, hml, rfl, HB, HM⟩ := hrel
    by_cases hlt2 : m < ts.length
    · have hi1 : (m : Int) < (ts.length : Int) := by omega
      obtain ⟨u, hu⟩ : ∃ u, ts[m]? = some u := ⟨_, List.getElem?_eq_getElem hlt2⟩
      obtain ⟨bl, off, rfl, hlt, hm⟩ := unhide hm' (by rintro rfl; simp at hlt2)
      have HT : Hid (valsL (ts.take (m + 1)) = valsL (ts.take m) ++ valsS u) := hide (valsL_take hu)
      have HU := hide (each_all seesD u)
      obtain ⟨cs, h6, hmu⟩ := MemSL.at (MemSL.below ((unhide HB).mono hB) hlt hm) m u hu
      have HMu := hide hmu
      have hwr : w.heap.size ≤ wr.heap.size := (unhide HB).size
      cases u with
      | mk k' ta tb oa' ob' kk =>
        rw [MemS] at hmu
        obtain ⟨_, d0, d1, d2, d3, d4, d5, e0, e1, e2, e3, e4, e5, ad', cp, hta, htb, rfl, _⟩ := hmu
        obtain ⟨y3, r3, x3, t3, l3, n3, p3, rfl, rfl, rfl, rfl, rfl, rfl⟩ := hta.six
        obtain ⟨y4, r4, x4, t4, l4, n4, p4, rfl, rfl, rfl, rfl, rfl, rfl⟩ := htb.six
        clear hta htb
        obtain ⟨c0, c1, c2, c3, c4, c5, c6, c7, c8, c9, c10, c11, c12, c13, c14, c15⟩ := h6.tell
        clear hu h6 hm
        go_wp2_with fail
        have hba := vbelow_new wr (.cells #[.int .i64 k', .int .i64 ta.kd, .bool y3, .int .i64 r3, .int .i64 x3, .string t3, .slice l3 n3 p3, .int .i64 tb.kd, .bool y4, .int .i64 r4, .int .i64 x4, .string t4, .slice l4 n4 p4, .bool oa', .bool ob', .slice ad' kk.length cp] 35)
        have S2 := (unhide HM).keep hba
        refine (unhide HU _ _ _ B _ _ _ S2 (MemS.below (hba.mono (by omega)) (unhide HMu)) (by simp; omega)).mono ?_
        rintro e w2 ⟨rfl, hm2, hb2⟩
        have HB2 := hide (((unhide HB).trans (hba.mono hwr)).trans (hb2.below (by omega) (by simp; omega)))
        have HM2 : Hid (SeeM encD 16 w.heap.size (w.heap.size + 2) (w.heap.size + 1) B (insV numV [] (valsL (ts.take (m + 1)))) w2) := hide (by rw [unhide HT, insV_app]; exact S2.but hb2 hm2)
        clear hm2 hb2 hba S2 HB HM HT HU HMu c0 c1 c2 c3 c4 c5 c6 c7 c8 c9 c10 c11 c12 c13 c14 c15
        go_wp2
        go_roundw
        case rel => exact ⟨m + 1, by omega, by go_num, HB2, HM2⟩
        case measure => simp [intOf]; omega
    · obtain rfl : m = ts.length := by omega
      rw [List.take_length] at HM
      have hq := (unhide HM).cq
      have hq2 := hide (lt_of_cell hq)
      have hwr : w.heap.size ≤ wr.heap.size := (unhide HB).size
      have KD := hide (keysD_any (some (w.heap.size + 1)) wr)
      have SD := hide (sortedD_any 5 _ #[.pointer (some ⟨wr.heap.size, 0, none⟩)] enterKeysD (fun ss => ss.Perm (insV numV [] (valsL ts))) _ (by
          have := hN
          unfold numE sortN at this
          rwa [List.length_mergeSort] at this) (wr.alloc (.cells #[.map (some (w.heap.size + 1))] 73)) (keysD_gives 5 wr.heap.size (w.heap.size + 1) (insV numV [] (valsL ts)) _ (by simp) (by simp [go_sem]) ((unhide HM).ms.same (Below.heap_alloc _ _ _ (unhide HM).ms.low)))
        (fun ss hss => ⟨by rw [hss.length_eq]; exact Nat.le_refl _, fun p hp => hr p (by unfold numE sortN; rw [(List.mergeSort_perm _ _).mem_iff]; exact hss.mem_iff.1 hp)⟩))
      go_wp2_with fail
      refine (unhide KD).mono ?_
      rintro e w2 ⟨rfl, rfl⟩
      go_wp2_with fail
      refine (unhide SD).mono ?_
      rintro e w3 ⟨u, ss, rfl, hss, how, hnil, hb3⟩
      have e1 : sortN ss = numE ts := sortN_perm hss (fun p hp => hr p (by unfold numE sortN; rw [(List.mergeSort_perm _ _).mem_iff]; exact hp))
      have e2 : ss.length = (numE ts).length := by rw [← e1]; unfold sortN; rw [List.length_mergeSort]
      rw [e1, e2] at how
      have hnil' : u = .slice none 0 0 ↔ numE ts = [] := by
        rw [hnil, ← List.length_eq_zero_iff, e2, List.length_eq_zero_iff]
      have how' := hide (ownsRow_base9 how (show w.heap.size ≤ _ by simp; omega))
      have HB3 := hide (((unhide HB).trans ((vbelow_new wr _).mono hwr)).trans (hb3.mono (by simp; omega)))
      have hn' := hide hnil'
      clear how hnil hb3 hnil' e1 e2 hss SD KD
      go_wp2
      go_ret
      exact ⟨u, rfl, unhide how', unhide hn', unhide HB3⟩
end Go.Proofs.YtdkgapapdjefdaaGreatDoor

/- edgesOf texts. -/
namespace Go.Proofs.YtdkgapapdjefdaaGreatDoor
open Go.RowKit Go.MapKept Go.Sort

theorem sortT_perm {l k : List ByteArray} (h : l.Perm k) : sortT l = sortT k := by
  unfold sortT
  have t1 : ∀ a b c : ByteArray, (!bl b a) = true → (!bl c b) = true → (!bl c a) = true := fun a b c h1 h2 => by
    simp at *
    have := swoT.ntrans c b a (by rw [ltT]; exact h2) (by rw [ltT]; exact h1)
    rwa [ltT] at this
  have t2 : ∀ a b : ByteArray, ((!bl b a) || (!bl a b)) = true := fun a b => by
    rcases bl_tri a b with ⟨h1, h2, _⟩ | ⟨h1, h2, _⟩ | ⟨h1, h2, _⟩ <;> simp [h1, h2]
  refine List.Perm.eq_of_pairwise ?_ (List.pairwise_mergeSort t1 t2 l) (List.pairwise_mergeSort t1 t2 k) (((List.mergeSort_perm _ _).trans h).trans (List.mergeSort_perm _ _).symm)
  intro a b _ _ h1 h2
  simp at h1 h2
  rcases bl_tri a b with ⟨q, _⟩ | ⟨_, q, _⟩ | ⟨_, _, q⟩
  · rw [q] at h2; cases h2
  · rw [q] at h1; cases h1
  · exact q

theorem enterKeysT : ∀ args w, (callFunc 81 args).run Tryz.prog w = .ok (.enter 81 args) w := enters_of Tryz.func81 (by kernel_rfl) rfl

set_option maxRecDepth 100000 in
set_option maxHeartbeats 8000000 in
theorem edgesT_any (ts : List TS) (v : Value) (B : Nat) (w : World) (hB : B ≤ w.heap.size) (hv : SlT B w ts v) (hN : (txtE ts).length ≤ 1000000000) :
    Calls Tryz.prog 18 #[v, .func (.func 19) #[] #[], .func (.func 20) #[] #[]] w fun e w' =>
      ∃ u, e = .returned u ∧ w'.ownsRow w.heap.size 9 1 u (txtE ts).length ((txtE ts).map Value.string) ∧ (u = .slice none 0 0 ↔ txtE ts = []) ∧ Below w.heap.size w w' := by
  obtain ⟨hl, ad, cap, rfl, hm⟩ := hv
  have hm' := hide hm
  obtain ⟨W0, hW0⟩ : ∃ W0, W0 = (((w.alloc (.cells #[.func (.func 19) #[] #[]] 52)).alloc (.map #[] 0)).alloc (.cells #[.map (some (w.heap.size + 1))] 82)) := ⟨_, rfl⟩
  have NB : Hid (Below w.heap.size w W0) := hide (by rw [hW0]; exact (((Below.refl _ w).alloc (Nat.le_refl _) _).alloc (by simp) _).alloc (by simp; omega) _)
  have S1 : Hid (SeeM Value.string 19 w.heap.size (w.heap.size + 2) (w.heap.size + 1) B [] W0) := hide (by
    rw [hW0]
    refine ⟨by simp [go_sem], by simp [go_sem], ?_, by omega, by omega, by omega⟩
    have := MSet.new Value.string (w.alloc (.cells #[.func (.func 19) #[] #[]] 52))
    simp only [World.size_alloc] at this
    exact this.same (Below.heap_alloc _ _ _ (by simp)))
  clear hm
  go_enter Tryz.func18, Tryz.ntmps18
  have hmm := @run_makeMap Tryz.prog
  go_wp2
  rw [← hW0]
  clear hW0 hmm
  go_loopw [15] (fun i wr => ∃ m : Nat, m ≤ ts.length ∧ i = .int .i64 (m : Int) ∧ Hid (Below w.heap.size w wr) ∧ Hid (SeeM Value.string 19 w.heap.size (w.heap.size + 2) (w.heap.size + 1) B (insV txtV [] (valsL (ts.take m))) wr)) (fun i _ => ts.length - (intOf i).toNat)
  case atStart => exact ⟨0, Nat.zero_le _, rfl, NB, by simpa [valsL, insV] using S1⟩
  case round =>
    obtain ⟨m, hml, rfl, HB, HM⟩ := hrel
    by_cases hlt2 : m < ts.length
    · have hi1 : (m : Int) < (ts.length : Int) := by omega
      obtain ⟨u, hu⟩ : ∃ u, ts[m]? = some u := ⟨_, List.getElem?_eq_getElem hlt2⟩
      obtain ⟨bl, off, rfl, hlt, hm⟩ := unhide hm' (by rintro rfl; simp at hlt2)
      have HT : Hid (valsL (ts.take (m + 1)) = valsL (ts.take m) ++ valsS u) := hide (valsL_take hu)
      have HU := hide (each_all seesT u)
      obtain ⟨cs, h6, hmu⟩ := MemSL.at (MemSL.below ((unhide HB).mono hB) hlt hm) m u hu
      have HMu := hide hmu
      have hwr : w.heap.size ≤ wr.heap.size := (unhide HB).size
      cases u with
      | mk k' ta tb oa' ob' kk =>
        rw [MemS] at hmu
        obtain ⟨_, d0, d1, d2, d3, d4, d5, e0, e1, e2, e3, e4, e5, ad', cp, hta, htb, rfl, _⟩ := hmu
        obtain ⟨y3, r3, x3, t3, l3, n3, p3, rfl, rfl, rfl, rfl, rfl, rfl⟩ := hta.six
        obtain ⟨y4, r4, x4, t4, l4, n4, p4, rfl, rfl, rfl, rfl, rfl, rfl⟩ := htb.six
        clear hta htb
        obtain ⟨c0, c1, c2, c3, c4, c5, c6, c7, c8, c9, c10, c11, c12, c13, c14, c15⟩ := h6.tell
        clear hu h6 hm
        go_wp2_with fail
        have hba := vbelow_new wr (.cells #[.int .i64 k', .int .i64 ta.kd, .bool y3, .int .i64 r3, .int .i64 x3, .string t3, .slice l3 n3 p3, .int .i64 tb.kd, .bool y4, .int .i64 r4, .int .i64 x4, .string t4, .slice l4 n4 p4, .bool oa', .bool ob', .slice ad' kk.length cp] 35)
        have S2 := (unhide HM).keep hba
        refine (unhide HU _ _ _ B _ _ _ S2 (MemS.below (hba.mono (by omega)) (unhide HMu)) (by simp; omega)).mono ?_
        rintro e w2 ⟨rfl, hm2, hb2⟩
        have HB2 := hide (((unhide HB).trans (hba.mono hwr)).trans (hb2.below (by omega) (by simp; omega)))
        have HM2 : Hid (SeeM Value.string 19 w.heap.size (w.heap.size + 2) (w.heap.size + 1) B (insV txtV [] (valsL (ts.take (m + 1)))) w2) := hide (by rw [unhide HT, insV_app]; exact S2.but hb2 hm2)
        clear hm2 hb2 hba S2 HB HM HT HU HMu c0 c1 c2 c3 c4 c5 c6 c7 c8 c9 c10 c11 c12 c13 c14 c15
        go_wp2
        go_roundw
        case rel => exact ⟨m + 1, by omega, by go_num, HB2, HM2⟩
        case measure => simp [intOf]; omega
    · obtain rfl : m = ts.length := by omega
      rw [List.take_length] at HM
      have hq := (unhide HM).cq
      have hq2 := hide (lt_of_cell hq)
      have hwr : w.heap.size ≤ wr.heap.size := (unhide HB).size
      have KD := hide (keysT_any (some (w.heap.size + 1)) wr)
      have SD := hide (sortedT_any 5 _ #[.pointer (some ⟨wr.heap.size, 0, none⟩)] enterKeysT (fun ss => ss.Perm (insV txtV [] (valsL ts))) _ (by
          have := hN
          unfold txtE sortT at this
          rwa [List.length_mergeSort] at this) (wr.alloc (.cells #[.map (some (w.heap.size + 1))] 82)) (keysT_gives 5 wr.heap.size (w.heap.size + 1) (insV txtV [] (valsL ts)) _ (by simp) (by simp [go_sem]) ((unhide HM).ms.same (Below.heap_alloc _ _ _ (unhide HM).ms.low)))
        (fun ss hss => by rw [hss.length_eq]; exact Nat.le_refl _))
      go_wp2_with fail
      refine (unhide KD).mono ?_
      rintro e w2 ⟨rfl, rfl⟩
      go_wp2_with fail
      refine (unhide SD).mono ?_
      rintro e w3 ⟨u, ss, rfl, hss, how, hnil, hb3⟩
      have e1 : sortT ss = txtE ts := sortT_perm hss
      have e2 : ss.length = (txtE ts).length := by rw [← e1]; unfold sortT; rw [List.length_mergeSort]
      rw [e1, e2] at how
      have hnil' : u = .slice none 0 0 ↔ txtE ts = [] := by
        rw [hnil, ← List.length_eq_zero_iff, e2, List.length_eq_zero_iff]
      have how' := hide (ownsRow_base9 how (show w.heap.size ≤ _ by simp; omega))
      have HB3 := hide (((unhide HB).trans ((vbelow_new wr _).mono hwr)).trans (hb3.mono (by simp; omega)))
      have hn' := hide hnil'
      clear how hnil hb3 hnil' e1 e2 hss SD KD
      go_wp2
      go_ret
      exact ⟨u, rfl, unhide how', unhide hn', unhide HB3⟩
end Go.Proofs.YtdkgapapdjefdaaGreatDoor
