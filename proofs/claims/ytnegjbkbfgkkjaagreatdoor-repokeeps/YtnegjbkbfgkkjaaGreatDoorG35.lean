/- Walks: where a name's entry is. -/
import Derived.Test.YtnegjbkbfgkkjaaGreatDoorG33
import Derived.Test.YtnegjbkbfgkkjaaGreatDoorG04
namespace Go.Proofs.YtnegjbkbfgkkjaaGreatDoor
open Go.RowKit Go.MapKept Go.Shelf

theorem Ls.ent {B B' : Nat} {w : World} {l : List (Rp.Ent ByteArray TbT)} {b off n cap : Nat} (h : Ls B' w 4 (EnM B w) l (.slice (some ⟨b, off, none⟩) n cap)) {i : Nat} {x : Rp.Ent ByteArray TbT} (hi : l[i]? = some x) :
    ∃ ka kc, (∀ j u, (#[.string x.name, .int .i64 x.next, .int .i64 x.now, .slice ka x.kept.length kc] : Array Value)[j]? = some u → w.cell? ⟨b, off + i * 4 + j, none⟩ = some u) ∧ Ls w.heap.size w 6 (VeM B w) x.kept (.slice ka x.kept.length kc) ∧ PlS (.slice ka x.kept.length kc) := by
  obtain ⟨_, cs, _, ⟨kv, rfl, hk, hp⟩, hc⟩ := h.at hi
  obtain ⟨ka, kc, rfl, _⟩ := id hk.tell
  exact ⟨ka, kc, hc, hk, hp⟩
/-- how a name stands to another one -/
def cmpN (a b : ByteArray) : Int := Lib.compareBytes a.data.toList b.data.toList

set_option maxRecDepth 100000 in
set_option maxHeartbeats 4000000 in
theorem entryAt1_any (s : ByteArray) (x1 x2 : Int) (x3 : Option Addr) (x4 x5 : Nat) (n : ByteArray) (w : World) :
    Calls Tryz.prog 40 #[.agg #[.string s, .int .i64 x1, .int .i64 x2, .slice x3 x4 x5], .string n] w fun e w' => e = .returned (.int .i64 (cmpN s n)) ∧ Below w.heap.size w w' := by
  have HC := hide (fun wx => Any.strings_Compare Tryz.lays106 s n wx)
  have HB := hide (vbelow_new w (.cells #[.string s, .int .i64 x1, .int .i64 x2, .slice x3 x4 x5] 54))
  go_enter Tryz.func40, Tryz.ntmps40
  go_wp2_with fail
  refine (unhide HC _).mono ?_
  rintro e w2 ⟨rfl, rfl⟩
  clear HC
  go_wp2
  go_ret
  exact ⟨rfl, unhide HB⟩

/-- where a name is, or would stand -/
structure AtN (l : List (Rp.Ent ByteArray TbT)) (n : ByteArray) (i : Nat) : Prop where
  le : i ≤ l.length
  lo : ∀ t e, l[t]? = some e → t < i → cmpN e.name n < 0
  hi : ∀ t e, l[t]? = some e → i ≤ t → 0 ≤ cmpN e.name n
def foundN (l : List (Rp.Ent ByteArray TbT)) (n : ByteArray) (i : Nat) : Bool := match l[i]? with
  | none => false
  | some e => cmpN e.name n == 0

set_option maxRecDepth 100000 in
set_option maxHeartbeats 4000000 in
theorem search_any {B : Nat} (l : List (Rp.Ent ByteArray TbT)) (v : Value) (n : ByteArray) (w : World) (hB : B ≤ w.heap.size) (hl : Ls w.heap.size w 4 (EnM B w) l v) (h6 : l.length ≤ 1000)
    (hm : ∀ (a b : Nat) (x y : Rp.Ent ByteArray TbT), a ≤ b → l[a]? = some x → l[b]? = some y → cmpN y.name n < 0 → cmpN x.name n < 0) :
    Calls Tryz.prog 39 #[v, .string n, .func (.func 40) #[] #[]] w fun e w' => ∃ i, AtN l n i ∧ e = .returned (.tuple #[.int .i64 (i : Int), .bool (foundN l n i)]) ∧ Below w.heap.size w w' := by
  obtain ⟨hlen, a, cap, rfl, _, hk⟩ := id hl
  have HF := hide (fun s x1 x2 x3 x4 x5 wx => entryAt1_any s x1 x2 x3 x4 x5 n wx)
  have HM := hide hm
  clear hk hm
  go_enter Tryz.func39, Tryz.ntmps39
  go_wp2
  go_loopw [9, 10] (fun i j wr => ∃ p q : Nat, p ≤ q ∧ q ≤ l.length ∧ i = .int .i64 (p : Int) ∧ j = .int .i64 (q : Int) ∧ Hid (∀ t e, l[t]? = some e → t < p → cmpN e.name n < 0) ∧ Hid (∀ t e, l[t]? = some e → q ≤ t → 0 ≤ cmpN e.name n) ∧ Hid (Below w.heap.size w wr)) (fun i j _ => (intOf j).toNat - (intOf i).toNat)
  case atStart => exact ⟨0, l.length, by omega, Nat.le_refl _, rfl, rfl, hide (fun t e _ h => by omega), hide (fun t e ht h => by have := (List.getElem?_eq_some_iff.1 ht).1; omega), hide (Below.refl _ _)⟩
  case round =>
    obtain ⟨p, q, hpq, hq, rfl, rfl, HL, HH, HB⟩ := hrel
    by_cases hlt : p < q
    · have hi1 : (p : Int) < (q : Int) := by omega
      obtain ⟨h, hh, hph, hhq⟩ : ∃ h : Nat, ((p : Int) + (q : Int)) / 2 = (h : Int) ∧ p ≤ h ∧ h < q := ⟨(p + q) / 2, by omega, by omega, by omega⟩
      have hhl : h < l.length := by omega
      have hi2 : (h : Int) < (l.length : Int) := by omega
      obtain ⟨x, hx⟩ : ∃ x, l[h]? = some x := ⟨_, List.getElem?_eq_getElem hhl⟩
      obtain ⟨b, off, cap', ev⟩ := hl.begins (by intro e; subst e; simp at hhl)
      cases ev
      obtain ⟨ka, kc, hq2, _⟩ := ((hl.below (unhide HB) fun x cs hc => EnM.below hB (unhide HB) hc).mono (unhide HB).size fun x cs hc => hc).ent hx
      have c0 := hq2 0 _ rfl
      have c1 := hq2 1 _ rfl
      have c2 := hq2 2 _ rfl
      have c3 := hq2 3 _ rfl
      rw [Nat.add_zero] at c0
      have C := hide (unhide HF x.name x.next x.now ka x.kept.length kc wr)
      have HP := hide (show p ≤ h ∧ h < q ∧ q ≤ l.length from ⟨hph, hhq, hq⟩)
      have HX := hide hx
      obtain ⟨X, hX⟩ : ∃ X, X = cmpN x.name n := ⟨_, rfl⟩
      rw [← hX] at C
      have HXX := hide hX
      clear hx hq2 hX hph hhq hhl
      go_wp2_with fail
      refine (unhide C).mono ?_
      rintro e w2 ⟨rfl, hb2⟩
      have HB2 := hide (below_via (unhide HB) hb2)
      clear hb2 C
      by_cases hneg : X < 0
      · have HL2 : Hid (∀ t e, l[t]? = some e → t < h + 1 → cmpN e.name n < 0) := hide (fun t e ht h' => unhide HM t h e x (by omega) ht (unhide HX) (by rw [← unhide HXX]; exact hneg))
        go_wp2
        go_round
        · exact ⟨h + 1, q, by have := unhide HP; omega, hq, by go_num, rfl, HL2, HH, HB2⟩
        · have := unhide HP; simp only [intOf]; omega
      · have HH2 : Hid (∀ t e, l[t]? = some e → h ≤ t → 0 ≤ cmpN e.name n) := hide (fun t e ht h' => by
          rcases Int.lt_or_le (cmpN e.name n) 0 with hc | hc
          · exact absurd (by rw [unhide HXX]; exact unhide HM h t x e h' (unhide HX) ht hc) hneg
          · exact hc)
        go_wp2
        go_round
        · exact ⟨p, h, by have := unhide HP; omega, by have := unhide HP; omega, rfl, rfl, HL, HH2, HB2⟩
        · have := unhide HP; simp only [intOf]; omega
    · have hi1 : ¬ (p : Int) < (q : Int) := by omega
      obtain rfl : p = q := by omega
      have AN : Hid (AtN l n p) := hide ⟨hq, unhide HL, unhide HH⟩
      by_cases hpl : p < l.length
      · have hi2 : (p : Int) < (l.length : Int) := by omega
        obtain ⟨x, hx⟩ : ∃ x, l[p]? = some x := ⟨_, List.getElem?_eq_getElem hpl⟩
        obtain ⟨b, off, cap', ev⟩ := hl.begins (by intro e; subst e; simp at hpl)
        cases ev
        obtain ⟨ka, kc, hq2, _⟩ := ((hl.below (unhide HB) fun x cs hc => EnM.below hB (unhide HB) hc).mono (unhide HB).size fun x cs hc => hc).ent hx
        have c0 := hq2 0 _ rfl
        have c1 := hq2 1 _ rfl
        have c2 := hq2 2 _ rfl
        have c3 := hq2 3 _ rfl
        rw [Nat.add_zero] at c0
        have C := hide (unhide HF x.name x.next x.now ka x.kept.length kc wr)
        have HFN : Hid (foundN l n p = (cmpN x.name n == 0)) := hide (by unfold foundN; rw [hx])
        generalize cmpN x.name n = X at C HFN
        clear hx hq2
        go_wp2_with fail
        refine (unhide C).mono ?_
        rintro e w2 ⟨rfl, hb2⟩
        have HB2 := hide (below_via (unhide HB) hb2)
        clear hb2 C
        go_wp2
        exact bodyPost_ret (v := .tuple #[.int .i64 (p : Int), .bool (X == 0)]) (by simp [results, Tryz.results39, go_sem]) rfl ⟨p, unhide AN, by rw [unhide HFN], unhide HB2⟩
      · have hi2 : ¬ (p : Int) < (l.length : Int) := by omega
        have HFN : Hid (foundN l n p = false) := hide (by unfold foundN; rw [List.getElem?_eq_none (by omega)])
        go_wp2
        exact bodyPost_ret (v := .tuple #[.int .i64 (p : Int), .bool false]) (by simp [results, Tryz.results39, go_sem]) rfl ⟨p, unhide AN, by rw [unhide HFN], unhide HB⟩

set_option maxRecDepth 100000 in
set_option maxHeartbeats 4000000 in
theorem entryAt_any {B : Nat} (l : List (Rp.Ent ByteArray TbT)) (v : Value) (n : ByteArray) (w : World) (hB : B ≤ w.heap.size) (hl : Ls w.heap.size w 4 (EnM B w) l v) (h6 : l.length ≤ 1000)
    (hm : ∀ (a b : Nat) (x y : Rp.Ent ByteArray TbT), a ≤ b → l[a]? = some x → l[b]? = some y → cmpN y.name n < 0 → cmpN x.name n < 0) :
    Calls Tryz.prog 22 #[v, .string n] w fun e w' => ∃ i, AtN l n i ∧ e = .returned (.tuple #[.int .i64 (i : Int), .bool (foundN l n i)]) ∧ Below w.heap.size w w' := by
  have S := hide (search_any l v n w hB hl h6 hm)
  obtain ⟨a, cap, rfl, _⟩ := hl.tell
  clear hl hm
  go_enter Tryz.func22, Tryz.ntmps22
  go_wp2_with fail
  refine (unhide S).mono ?_
  rintro e w2 ⟨i, hi, rfl, hb2⟩
  have HI := hide hi
  have HB2 := hide hb2
  clear hi hb2 S
  go_wp2
  exact bodyPost_ret (v := .tuple #[.int .i64 (i : Int), .bool (foundN l n i)]) (by simp [results, Tryz.results22, go_sem]) rfl ⟨i, unhide HI, rfl, unhide HB2⟩
end Go.Proofs.YtnegjbkbfgkkjaaGreatDoor
