/- Walks: a tree becomes bytes. -/
import Derived.Test.YtlienildfnlncaaKE
import Derived.Lib.AppendStr
namespace Go.Proofs.Ytlienildfnlncaa
open Go.RowKit
open Go.Lib (uvarint zigzag uvarint_small uvarint_big)

/-- up to the text -/
def pre (l : List UInt8) (g n : Int) (t : ByteArray) : List UInt8 := l ++ [g.toNat.toUInt8] ++ uvarint (zigzag n) ++ uvarint t.size
mutual
def withF : WT → List UInt8 → List UInt8 × Bool
  | .mk g n t ks, l => if 100000 < (pre l g n t).length + t.size then (pre l g n t, false) else withL ks (pre l g n t ++ t.data.toList ++ uvarint ks.length)
def withL : List WT → List UInt8 → List UInt8 × Bool
  | [], l => (l, true)
  | t :: ts, l => if (withF t l).2 = true then withL ts (withF t l).1 else ((withF t l).1, false)
end
mutual
theorem withF_yes : ∀ (T : WT) (l : List UInt8), (withF T l).2 = true → (withF T l).1 = l ++ enc T
  | .mk g n t ks, l, h => by
    rw [withF] at h ⊢
    split at h
    · cases h
    · rename_i q
      rw [if_neg q, withL_yes ks _ h, enc]
      unfold pre
      simp
theorem withL_yes : ∀ (ks : List WT) (l : List UInt8), (withL ks l).2 = true → (withL ks l).1 = l ++ encL ks
  | [], l, h => by rw [withL, encL]; simp
  | t :: ts, l, h => by
    rw [withL] at h ⊢
    split at h
    · rename_i q
      rw [if_pos q, withL_yes ts _ h, withF_yes t l q, encL, List.append_assoc]
    · cases h
end
mutual
theorem withF_fits : ∀ (T : WT) (l : List UInt8), (l ++ enc T).length ≤ 100000 → (withF T l).2 = true
  | .mk g n t ks, l, h => by
    rw [withF]
    rw [enc] at h
    have hs : t.data.toList.length = t.size := rfl
    split
    · rename_i q
      unfold pre at q
      simp only [List.length_append, List.length_cons, List.length_nil, hs] at h q
      omega
    · refine withL_fits ks _ ?_
      unfold pre
      simp only [List.length_append, List.length_cons, List.length_nil, hs] at h ⊢
      omega
theorem withL_fits : ∀ (ks : List WT) (l : List UInt8), (l ++ encL ks).length ≤ 100000 → (withL ks l).2 = true
  | [], l, h => by rw [withL]
  | t :: ts, l, h => by
    rw [encL] at h
    have q := withF_fits t l (by simp at h ⊢; omega)
    rw [withL, if_pos q]
    refine withL_fits ts _ ?_
    rw [withF_yes t l q]
    simpa using h
end
theorem pre_len {l : List UInt8} {g n : Int} {t : ByteArray} (h0 : -9223372036854775808 ≤ n) (h1 : n ≤ 9223372036854775807) (ht : t.size ≤ 9223372036854775807) : (pre l g n t).length ≤ l.length + 21 := by
  have a := Go.Lib.uvarint_length64 (zig_bd h0 h1)
  have b := Go.Lib.uvarint_length64 (x := t.size) (by omega)
  unfold pre
  simp only [List.length_append, List.length_cons, List.length_nil]
  omega
mutual
theorem withF_len : ∀ (T : WT) (l : List UInt8) (m : Nat), fitW T → 100000 ≤ m → l.length ≤ m → (withF T l).1.length ≤ m + 31 * cnt T
  | .mk g n t ks, l, m, hf, hm, hl => by
    rw [fitW] at hf
    have hp := pre_len (l := l) (g := g) hf.1 hf.2.1 hf.2.2.1
    have hk := Go.Lib.uvarint_length64 (x := ks.length) (by omega)
    rw [withF, cnt]
    split
    · simp only
      omega
    · have := withL_len ks (pre l g n t ++ t.data.toList ++ uvarint ks.length) (m + 31) hf.2.2.2.2 (by omega) (by
        have hs : t.data.toList.length = t.size := rfl
        simp only [List.length_append, hs]
        omega)
      omega
theorem withL_len : ∀ (ks : List WT) (l : List UInt8) (m : Nat), fitL ks → 100000 ≤ m → l.length ≤ m → (withL ks l).1.length ≤ m + 31 * cntL ks
  | [], l, m, hf, hm, hl => by
    rw [withL, cntL]
    simp only
    omega
  | t :: ts, l, m, hf, hm, hl => by
    rw [fitL] at hf
    have a := withF_len t l m hf.1 hm hl
    rw [withL, cntL]
    split
    · have := withL_len ts (withF t l).1 (m + 31 * cnt t) hf.2 (by omega) a
      omega
    · simp only
      omega
end

/-- a slice and a bool that are told -/
def PostW (B : Nat) (w : World) (v : Value) (r : List UInt8 × Bool) (e : Ending) (w' : World) : Prop := ∃ v', e = .returned (.tuple #[v', .bool r.2]) ∧ Own B w' v' r.1 ∧ Gw v v' w w'
def WithC (T : WT) : Prop := ∀ (B : Nat) (w : World) (v : Value) (tv : Array Value) (l : List UInt8) (m d : Nat), Own B w v l → B ≤ w.heap.size → MemW B w T tv → okW T d → 100000 ≤ m → l.length ≤ m → m + 31 * cnt T ≤ 300000 →
  Calls Try.prog 19 #[v, .agg tv] w (PostW B w v (withF T l))

section
variable {P : Program} (w : World)
open Go.Lib
/-- a text's bytes behind what is owned, and where they lie -/
theorem app_str (base : Nat) (t u ty e : TypeId) (i : TypeInfo) (ht : P.underlying t = some (.slice e)) (hu : P.underlying u = some .string) (hi : P.info? e = some i) (hz : i.zero = some (.int .u8 0)) (hsize : i.size = 1) (hby : i.bytes = 1)
    (v : Value) (n : Nat) (hn : 0 < n) (xs : List Value) (hown : w.ownsRow base e 1 v n xs) (s : ByteArray) (h63 : n + s.size ≤ maxLen) (hbytes : n + s.size ≤ 140737488355328) (hbase : base ≤ w.heap.size) :
    ∃ v' w', (Builtin.append_ #[t, u] ty #[v, .string s]).run P w = .ok v' w' ∧ w'.ownsRow base e 1 v' (n + s.size) (xs ++ strCells s) ∧ w.grownBy w' v.ownBlock ∧ (v'.ownBlock = v.ownBlock ∨ v'.ownBlock = some w.heap.size) := by
  obtain ⟨v', w', hr, h2, h3, _⟩ := run_append_own_string (P := P) w base t u ty e i ht hu hi hz hsize hby v n xs hown s h63 hbytes hbase
  refine ⟨v', w', hr, h2, h3, ?_⟩
  rcases hown.2 with ⟨_, h0⟩ | ⟨g, cap, cur, rfl, hbg, hg, hnc, hcm, hcs, htake⟩
  · omega
  · have hxl : xs.length = n := by simpa using hown.1
    by_cases hroom : n + s.size ≤ cap
    · have q := run_append_room_string (P := P) w t u ty e i ht hu hi hsize g n cap cur hg s hroom (by have : cur.size = cap := by simpa using hcs
                                                                                                       omega)
      rw [hr] at q
      obtain ⟨rfl, _⟩ := Result.ok.inj q
      exact .inl rfl
    · have holds : ∀ j u, xs[j]? = some u → w.cell? ((⟨g, 0, none⟩ : Addr).add j) = some u := hown.cells (g := g) rfl
      have q := run_append_grow_string (P := P) w t u ty e i (.int .u8 0) ht hu hi hz ⟨g, 0, none⟩ n cap xs (by rw [hsize]; simpa using hxl) holds s (by omega) (by unfold maxLen at h63; omega) (by rw [hby]; exact growslice_fits (by omega) (by omega))
      rw [hr] at q
      obtain ⟨rfl, _⟩ := Result.ok.inj q
      exact .inr rfl
theorem wpList_app_str {ops : Array Oper} {rest : List Oper} {o : Oper} {a : Act} {Q : Exit → Act → World → Prop} (hgd : o.guard = none) (sl x : Operand) (t u : TypeId)
    (ho : o.op = .call { callee := .builtin .append, args := #[sl, x], argTypes := #[t, u] })
    (base : Nat) (e : TypeId) (i : TypeInfo) (ht : P.underlying t = some (.slice e)) (hu : P.underlying u = some .string) (hi : P.info? e = some i) (hz : i.zero = some (.int .u8 0)) (hsize : i.size = 1) (hby : i.bytes = 1)
    (v : Value) (n : Nat) (hn : 0 < n) (xs : List Value) (hs : a.eval sl = v) (hown : w.ownsRow base e 1 v n xs) (s : ByteArray) (hx : a.eval x = .string s)
    (h63 : n + s.size ≤ maxLen) (hbytes : n + s.size ≤ 140737488355328) (hbase : base ≤ w.heap.size)
    (h : ∀ v' w', w'.ownsRow base e 1 v' (n + s.size) (xs ++ strCells s) → w.grownBy w' v.ownBlock → (v'.ownBlock = v.ownBlock ∨ v'.ownBlock = some w.heap.size) → wpList P ops Q rest (a.put o.dst v') w') : wpList P ops Q (o :: rest) a w := by
  refine wpList_plain hgd fun K hK => ?_
  obtain ⟨v', w', hr, h2, h3, h4⟩ := app_str (P := P) w base t u o.type e i ht hu hi hz hsize hby v n hn xs hown s h63 hbytes hbase
  unfold Oper.wp execOp
  simp only [ho, resolve, invoke, builtin, Sem.run_bind, Sem.run_pure, Result.andThen_ok, List.map_toArray, List.map_cons, List.map_nil, hs, hx, hr]
  exact hK _ _ (h v' w' h2 h3 h4)
end
end Go.Proofs.Ytlienildfnlncaa
