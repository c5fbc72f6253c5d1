/- Walks: others, stand's closure (raft). Written by gen_ng.py. -/
import Derived.Test.YtiplnegiphhdlaaNF
namespace Go.Proofs.Ytiplnegiphhdlaa.Rf

/-- the others up to one -/
def upto (x : Node) (m : Nat) : List Int := ((List.range m).map (fun i : Nat => (i : Int) + 1)).filter (fun q => q ≠ x.id)
theorem upto_zero (x : Node) : upto x 0 = [] := rfl
theorem upto_self (x : Node) {m : Nat} (h : (m : Int) + 1 = x.id) : upto x (m + 1) = upto x m := by
  simp [upto, List.range_succ, h]
theorem upto_next (x : Node) {m : Nat} (h : (m : Int) + 1 ≠ x.id) : upto x (m + 1) = upto x m ++ [(m : Int) + 1] := by
  simp [upto, List.range_succ, h]
theorem upto_len (x : Node) (m : Nat) : (upto x m).length ≤ m := by
  have := List.length_filter_le (fun q => decide (q ≠ x.id)) ((List.range m).map (fun i : Nat => (i : Int) + 1))
  rw [List.length_map, List.length_range] at this
  exact this

end Go.Proofs.Ytiplnegiphhdlaa.Rf

namespace Go.Proofs.Ytiplnegiphhdlaa.RW
open Go.RowKit

set_option maxHeartbeats 4000000 in
set_option maxRecDepth 100000 in
theorem stand1_any (B p bx : Nat) (x : Rf.Node) (ms : List Rf.Msg) (o : Own) (k : Int) (w : World) (hk : WK B w p x ms o) (hbx : BK w bx 42 #[.pointer (some ⟨p, 0, none⟩)]) (hms : ms.length ≤ 1000) (hl : x.log.length ≤ 60) :
    Calls Try.prog 40 #[.int .i64 k, .pointer (some ⟨bx, 0, none⟩)] w (PS B p o w x (ms ++ [Rf.voteMsg x k])) := by
  obtain ⟨la, LL, lc, va, VL, vc, na, NL, nc, ma, ML, mc, sa, SL, sc, HE, hLL, hVL, hNL, hML, hSL, ⟨r1, _, _, _⟩, ⟨c0, c1, c2, c3, c4, c5, c6, c7, c8, c9, c10, c11⟩, ⟨f0, f1, f2, f3, f4, f5, f6, f7, f8, f9, f10, f11⟩⟩ := hk.tell
  have hp := hk.lo
  have bc := hbx.at (j := 0) rfl
  have H2 : Tv w (.slice la LL lc) x.log := by have := SC.own hk.log; rwa [(unhide HE).1] at this
  have CT := hide (termOf_any p x.log (.slice la LL lc) LL w.drew c4 H2 (by rw [unhide hLL]; omega))
  have CS : Hid (Calls Try.prog 41 #[.pointer (some ⟨p, 0, none⟩), .agg #[.int .i64 1, .int .i64 0, .int .i64 k, .int .i64 0, .int .i64 (LL : Int), .int .i64 (Rf.atN x.log LL), .int .i64 0, .slice none 0 0, .bool false]] w.drew
        (fun e w5 => e = .returned (.tuple #[]) ∧ Hid (∃ s' cs', WK B w5 p x (ms ++ [Rf.voteMsg x k]) { o with s := s', cs := cs' } ∧ Fr B p o w { o with s := s', cs := cs' } w5))) := hide (by
    have e : Rf.voteMsg x k = { kind := 1, frm := x.id, dest := k, term := x.term, index := (LL : Int), logTerm := Rf.atN x.log LL, commit := 0, items := [], yes := false } := by rw [Rf.voteMsg, unhide hLL, Rf.lastT]
    have hb : Below w.heap.size w w.drew := (Below.refl _ _).drew
    rw [e]
    refine (say_any B p x ms o { kind := 1, frm := x.id, dest := k, term := x.term, index := (LL : Int), logTerm := Rf.atN x.log LL, commit := 0, items := [], yes := false } (.slice none 0 0) w.drew (hk.below hb) (SC.nil _ _ _) hms rfl rfl 0 0).mono ?_
    rintro e w5 ⟨h, s5, cs5, hK5, hF5⟩
    exact ⟨h, hide ⟨s5, cs5, hK5, (Fr.below hb hk.szB).trans hF5⟩⟩)
  obtain ⟨LT, hLT⟩ : ∃ z, z = Rf.atN x.log LL := ⟨_, rfl⟩
  rw [← hLT] at CT CS
  clear hLT hk hbx H2 f0 f1 f2 f3 f4 f5 f6 f7 f8 f9 f10 f11
  go_enter Try.func40, Try.ntmps40
  go_wp2_with fail
  go_region_with (first
    | (go_at_call 42; with_reducible refine (unhide CT).mono ?_; rintro e w2 ⟨rfl, rfl⟩)
    | (go_at_call 41; with_reducible refine (unhide CS).mono ?_; rintro e w5 ⟨rfl, FIN⟩))
  all_goals go_wp2
  all_goals go_end0
  all_goals exact ⟨rfl, unhide FIN⟩

set_option maxHeartbeats 4000000 in
theorem others_send (B p : Nat) (x : Rf.Node) (ms : List Rf.Msg) (o : Own) (w : World) (hk : WK B w p x ms o) (hms : ms.length ≤ 100) (hn1 : 1 ≤ x.n) (hn5 : x.n ≤ 5) (hl : x.log.length ≤ 60) (hnx : (x.next.length : Int) = x.n) (hpl : ∀ v ∈ x.next, Rf.inB v 1 ((x.log.length : Int) + 1)) :
    Calls Try.prog 30 #[.pointer (some ⟨p, 0, none⟩), .func (.func 31) #[.pointer (some ⟨p, 0, none⟩)] #[]] w (PS B p o w x (ms ++ (Rf.others x).map (Rf.batch x))) := by
  obtain ⟨N, hN⟩ : ∃ N : Nat, x.n = (N : Int) := ⟨x.n.toNat, by omega⟩
  have HO : Hid (Rf.others x = Rf.upto x N) := hide (by rw [Rf.others, Rf.upto, hN, Int.toNat_natCast])
  have HN := hide hN
  have hN5 : N ≤ 5 := by omega
  have HK := hide hk
  have HST : Hid (∀ (m : Nat) (ms' : List Rf.Msg) (s' : Value) (cs' : List Value) (w' : World), m < N → WK B w' p x ms' { o with s := s', cs := cs' } → Fr B p o w { o with s := s', cs := cs' } w' → ms'.length ≤ 1000 →
      Calls Try.prog 31 #[.pointer (some ⟨p, 0, none⟩), .int .i64 ((m : Int) + 1)] w' (PS B p { o with s := s', cs := cs' } w' x (ms' ++ [(Rf.batch x) ((m : Int) + 1)]))) := hide (fun m ms' s' cs' w' hm hk' hf' hl' => by
    have hm2 : m < x.next.length := by omega
    obtain ⟨fr, hfr⟩ : ∃ fr : Nat, x.next[m] = (fr : Int) + 1 := ⟨(x.next[m] - 1).toNat, by have := (hpl _ (List.getElem_mem hm2)).1; omega⟩
    have h2 := (hpl _ (List.getElem_mem hm2)).2
    have := send_any B p x ms' { o with s := s', cs := cs' } (m + 1) fr w' hk' hl' (by omega) (by omega) (by rw [Nat.add_sub_cancel, List.getElem?_eq_getElem hm2, hfr]) (by omega) hl
    rwa [show ((m + 1 : Nat) : Int) = (m : Int) + 1 by omega] at this)
  clear hk hN hnx hpl
  go_enter Try.func30, Try.ntmps30
  go_wp2_with fail
  go_loopw [4] (fun i wr => ∃ (m : Nat) (s' : Value) (cs' : List Value), m ≤ N ∧ i = .int .i64 ((m : Int) + 1) ∧ Hid (WK B wr p x (ms ++ (Rf.upto x m).map (Rf.batch x)) { o with s := s', cs := cs' } ∧ Fr B p o w { o with s := s', cs := cs' } wr)) (fun i _ => N + 1 - (intOf i).toNat)
  case atStart => exact ⟨0, o.s, o.cs, Nat.zero_le _, by simp, hide ⟨by rw [Rf.upto_zero, List.map_nil, List.append_nil]; exact unhide HK, Fr.refl _ _ _ _⟩⟩
  case round =>
    obtain ⟨m, s', cs', hm, rfl, HR⟩ := hrel
    have c0 : wr.cell? ⟨p, 0, none⟩ = some (.int .i64 x.id) := (unhide HR).1.blk.at (j := 0) rfl
    have c1 : wr.cell? ⟨p, 1, none⟩ = some (.int .i64 (N : Int)) := ((unhide HR).1.blk.at (j := 1) (u := .int .i64 x.n) rfl).trans (by rw [unhide HN])
    have ew : IntKind.i64.wrap ((m : Int) + 1 + 1) = ((m + 1 : Nat) : Int) + 1 := by rw [wrap_i64 (by omega) (by omega)]; omega
    by_cases hlt : m < N
    · have h1 : (m : Int) + 1 ≤ (N : Int) := by omega
      have h1' : (m : Int) < (N : Int) := by omega
      by_cases hid : (m : Int) + 1 = x.id
      · have b1 : ((m : Int) + 1 == x.id) = true := by simpa using hid
        have HR2 := hide (unhide HR)
        rw [← Rf.upto_self x hid] at HR2
        clear HR hid
        go_wp2
        go_roundw
        case rel => exact ⟨m + 1, s', cs', by omega, rfl, HR2⟩
        case measure => simp [intOf]; omega
      · have b1 : ((m : Int) + 1 == x.id) = false := by simpa using hid
        have C := hide (unhide HST m (ms ++ (Rf.upto x m).map (Rf.batch x)) s' cs' wr hlt (unhide HR).1 (unhide HR).2 (by
          rw [List.length_append, List.length_map]
          have := Rf.upto_len x m
          omega))
        rw [List.append_assoc] at C
        have EU : Hid ((Rf.upto x m).map (Rf.batch x) ++ [(Rf.batch x) ((m : Int) + 1)] = (Rf.upto x (m + 1)).map (Rf.batch x)) := hide (by rw [Rf.upto_next x hid, List.map_append]; rfl)
        rw [unhide EU] at C
        have HF := hide (unhide HR).2
        clear HR EU hid
        go_wp2_with (go_at_call 31; refine (unhide C).mono ?_; rintro e w2 ⟨rfl, s2, cs2, hK2, hF2⟩)
        have HR2 := hide (And.intro hK2 ((unhide HF).trans hF2))
        clear hK2 hF2 C HF
        go_roundw
        case rel => exact ⟨m + 1, s2, cs2, by omega, rfl, HR2⟩
        case measure => simp [intOf]; omega
    · obtain rfl : m = N := by omega
      have h1 : ¬ (m : Int) + 1 ≤ (m : Int) := by omega
      go_wp2
      go_end0
      rw [unhide HO]
      exact ⟨rfl, s', cs', unhide HR⟩

set_option maxHeartbeats 4000000 in
theorem others_ask (B p bx : Nat) (x : Rf.Node) (ms : List Rf.Msg) (o : Own) (w : World) (hk : WK B w p x ms o) (hms : ms.length ≤ 100) (hn1 : 1 ≤ x.n) (hn5 : x.n ≤ 5) (hl : x.log.length ≤ 60) (hbx : BK w bx 42 #[.pointer (some ⟨p, 0, none⟩)]) (hfb : Free p o bx) :
    Calls Try.prog 30 #[.pointer (some ⟨p, 0, none⟩), .func (.func 40) #[] #[.pointer (some ⟨bx, 0, none⟩)]] w (PS B p o w x (ms ++ (Rf.others x).map (Rf.voteMsg x))) := by
  obtain ⟨N, hN⟩ : ∃ N : Nat, x.n = (N : Int) := ⟨x.n.toNat, by omega⟩
  have HO : Hid (Rf.others x = Rf.upto x N) := hide (by rw [Rf.others, Rf.upto, hN, Int.toNat_natCast])
  have HN := hide hN
  have hN5 : N ≤ 5 := by omega
  have HK := hide hk
  have HST : Hid (∀ (m : Nat) (ms' : List Rf.Msg) (s' : Value) (cs' : List Value) (w' : World), m < N → WK B w' p x ms' { o with s := s', cs := cs' } → Fr B p o w { o with s := s', cs := cs' } w' → ms'.length ≤ 1000 →
      Calls Try.prog 40 #[.int .i64 ((m : Int) + 1), .pointer (some ⟨bx, 0, none⟩)] w' (PS B p { o with s := s', cs := cs' } w' x (ms' ++ [(Rf.voteMsg x) ((m : Int) + 1)]))) := hide (fun m ms' s' cs' w' hm hk' hf' hl' => by
    exact stand1_any B p bx x ms' { o with s := s', cs := cs' } ((m : Int) + 1) w' hk' (hf'.bk hbx hfb) hl' hl)
  clear hk hN hbx
  go_enter Try.func30, Try.ntmps30
  go_wp2_with fail
  go_loopw [4] (fun i wr => ∃ (m : Nat) (s' : Value) (cs' : List Value), m ≤ N ∧ i = .int .i64 ((m : Int) + 1) ∧ Hid (WK B wr p x (ms ++ (Rf.upto x m).map (Rf.voteMsg x)) { o with s := s', cs := cs' } ∧ Fr B p o w { o with s := s', cs := cs' } wr)) (fun i _ => N + 1 - (intOf i).toNat)
  case atStart => exact ⟨0, o.s, o.cs, Nat.zero_le _, by simp, hide ⟨by rw [Rf.upto_zero, List.map_nil, List.append_nil]; exact unhide HK, Fr.refl _ _ _ _⟩⟩
  case round =>
    obtain ⟨m, s', cs', hm, rfl, HR⟩ := hrel
    have c0 : wr.cell? ⟨p, 0, none⟩ = some (.int .i64 x.id) := (unhide HR).1.blk.at (j := 0) rfl
    have c1 : wr.cell? ⟨p, 1, none⟩ = some (.int .i64 (N : Int)) := ((unhide HR).1.blk.at (j := 1) (u := .int .i64 x.n) rfl).trans (by rw [unhide HN])
    have ew : IntKind.i64.wrap ((m : Int) + 1 + 1) = ((m + 1 : Nat) : Int) + 1 := by rw [wrap_i64 (by omega) (by omega)]; omega
    by_cases hlt : m < N
    · have h1 : (m : Int) + 1 ≤ (N : Int) := by omega
      have h1' : (m : Int) < (N : Int) := by omega
      by_cases hid : (m : Int) + 1 = x.id
      · have b1 : ((m : Int) + 1 == x.id) = true := by simpa using hid
        have HR2 := hide (unhide HR)
        rw [← Rf.upto_self x hid] at HR2
        clear HR hid
        go_wp2
        go_roundw
        case rel => exact ⟨m + 1, s', cs', by omega, rfl, HR2⟩
        case measure => simp [intOf]; omega
      · have b1 : ((m : Int) + 1 == x.id) = false := by simpa using hid
        have C := hide (unhide HST m (ms ++ (Rf.upto x m).map (Rf.voteMsg x)) s' cs' wr hlt (unhide HR).1 (unhide HR).2 (by
          rw [List.length_append, List.length_map]
          have := Rf.upto_len x m
          omega))
        rw [List.append_assoc] at C
        have EU : Hid ((Rf.upto x m).map (Rf.voteMsg x) ++ [(Rf.voteMsg x) ((m : Int) + 1)] = (Rf.upto x (m + 1)).map (Rf.voteMsg x)) := hide (by rw [Rf.upto_next x hid, List.map_append]; rfl)
        rw [unhide EU] at C
        have HF := hide (unhide HR).2
        clear HR EU hid
        go_wp2_with (go_at_call 40; refine (unhide C).mono ?_; rintro e w2 ⟨rfl, s2, cs2, hK2, hF2⟩)
        have HR2 := hide (And.intro hK2 ((unhide HF).trans hF2))
        clear hK2 hF2 C HF
        go_roundw
        case rel => exact ⟨m + 1, s2, cs2, by omega, rfl, HR2⟩
        case measure => simp [intOf]; omega
    · obtain rfl : m = N := by omega
      have h1 : ¬ (m : Int) + 1 ≤ (m : Int) := by omega
      go_wp2
      go_end0
      rw [unhide HO]
      exact ⟨rfl, s', cs', unhide HR⟩

end Go.Proofs.Ytiplnegiphhdlaa.RW
