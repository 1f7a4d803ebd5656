/- The answers of Find, Count, Implies and Alike for every input, by the program and by the document: one and the same. -/
import Derived.Test.YtccncojidkdddaaImp
import Derived.Test.YtccncojidkdddaaAlike2
namespace Tru
/-- Find's answer. -/
inductive FW (vars : Int) (cs : List (List Int)) : List Bool → Bool → Int → Prop
  | err (h : ¬ taken vars cs = 0) : FW vars cs [] false (taken vars cs)
  | found (u k : Nat) (hv : vars = u) (ht : taken vars cs = 0) (hk : k < 2 ^ u) (hs : sat cs u k = true) (hf : ∀ j, j < k → sat cs u j = false) : FW vars cs (model u k) true 0
  | none (u : Nat) (hv : vars = u) (ht : taken vars cs = 0) (hf : ∀ j, j < 2 ^ u → sat cs u j = false) : FW vars cs [] false 0
theorem FW.unique {vars : Int} {cs : List (List Int)} {bs ds : List Bool} {p q : Bool} {e f : Int} (h : FW vars cs bs p e) (k : FW vars cs ds q f) : bs = ds ∧ p = q ∧ e = f := by
  cases h with
  | err h =>
    cases k with
    | err _ => exact ⟨rfl, rfl, rfl⟩
    | found _ _ _ ht => exact absurd ht h
    | none _ _ ht => exact absurd ht h
  | found u j hv ht hk hs hf =>
    cases k with
    | err h => exact absurd ht h
    | found u' j' hv' ht' hk' hs' hf' =>
      obtain rfl : u = u' := by omega
      have : j = j' := by
        rcases Nat.lt_trichotomy j j' with h | h | h
        · rw [hf' j h] at hs; cases hs
        · exact h
        · rw [hf j' h] at hs'; cases hs'
      subst this
      exact ⟨rfl, rfl, rfl⟩
    | none u' hv' ht' hf' =>
      obtain rfl : u = u' := by omega
      rw [hf' j hk] at hs
      cases hs
  | none u hv ht hf =>
    cases k with
    | err h => exact absurd ht h
    | found u' j' hv' ht' hk' hs' hf' =>
      obtain rfl : u = u' := by omega
      rw [hf j' hk'] at hs'
      cases hs'
    | none _ _ _ _ => exact ⟨rfl, rfl, rfl⟩
/-- Count's number. -/
def countV (vars : Int) (cs : List (List Int)) : Nat := if taken vars cs = 0 then count cs vars.toNat (2 ^ vars.toNat) else 0
def impB (vars : Int) (cs : List (List Int)) (c : List Int) : Bool := decide (taken vars cs = 0) && (goodC vars.toNat c && impTo cs vars.toNat c (2 ^ vars.toNat))
def impE (vars : Int) (cs : List (List Int)) (c : List Int) : Int := if taken vars cs = 0 then (if goodC vars.toNat c then 0 else 4) else taken vars cs
def alB (vars : Int) (cs : List (List Int)) (wars : Int) (ds : List (List Int)) : Bool := decide (taken vars cs = 0) && decide (taken wars ds = 0) && decide (vars = wars) && alikeTo cs ds vars.toNat (2 ^ vars.toNat)
def alE (vars : Int) (cs : List (List Int)) (wars : Int) (ds : List (List Int)) : Int := if taken vars cs = 0 then (if taken wars ds = 0 then (if vars = wars then 0 else 2) else taken wars ds) else taken vars cs
end Tru
namespace Go.Proofs.Ytccncojidkdddaa
open Go.RowKit Go.Lib Go.Sort Go.Shelf
set_option linter.unusedVariables false
set_option linter.unusedSimpArgs false

def FA (vars : Int) (cs : List (List Int)) (e : Ending) (w : World) : Prop := ∃ (a : Option Addr) (cap : Nat) (bs : List Bool) (ok : Bool) (er : Int), e = .returned (.tuple #[.slice a bs.length cap, .bool ok, .int .i64 er]) ∧ Bools w a bs ∧ Tru.FW vars cs bs ok er
theorem FindOut.fa {vars : Int} {u : Nat} {cs : List (List Int)} {e : Ending} {w : World} (hv : vars = u) (ht : Tru.taken vars cs = 0) (h : FindOut u cs e w) : FA vars cs e w := by
  rcases h with ⟨k, a, cap, h1, h2, h3, h4, h5⟩ | ⟨h1, h2⟩
  · exact ⟨a, cap, _, true, 0, by rw [Tru.model_len]; exact h4, h5, .found u k hv ht h1 h2 h3⟩
  · exact ⟨none, 0, [], false, 0, h2, .inl rfl, .none u hv ht h1⟩

theorem find8_all (vars : Int) (a : Option Addr) (n cap : Nat) (cs : List (List Int)) (w : World) (hn : cs.length = n) (hc : Cls w a cs) :
    Calls Try.prog 8 #[.agg #[.int .i64 vars, .slice a n cap]] w fun e w' => FA vars cs e w' ∧ Below w.heap.size w w' := by
  by_cases ht : Tru.taken vars cs = 0
  · obtain ⟨u, rfl, h16, hN, hL, hv⟩ := Tru.taken_zero vars cs ht
    exact (find8 u a n cap cs w hn hc ht h16 (by omega) hL hv).mono fun e w' h => ⟨h.1.fa rfl ht, h.2⟩
  · exact (find8_err vars a n cap cs w hn hc ht).mono fun e w' h => ⟨⟨none, 0, [], false, _, h.1, .inl rfl, .err ht⟩, h.2⟩
theorem find9_all (vars : Int) (a : Option Addr) (n cap : Nat) (cs : List (List Int)) (w : World) (hn : cs.length = n) (hc : Cls w a cs) :
    Calls Try.prog 9 #[.agg #[.int .i64 vars, .slice a n cap]] w fun e w' => FA vars cs e w' ∧ Below w.heap.size w w' := by
  by_cases ht : Tru.taken vars cs = 0
  · obtain ⟨u, rfl, h16, hN, hL, hv⟩ := Tru.taken_zero vars cs ht
    exact (find9 u a n cap cs w hn hc ht h16 (by omega) hL).mono fun e w' h => ⟨h.1.fa rfl ht, h.2⟩
  · exact (find9_err vars a n cap cs w hn hc ht).mono fun e w' h => ⟨⟨none, 0, [], false, _, h.1, .inl rfl, .err ht⟩, h.2⟩
theorem count10_all (vars : Int) (a : Option Addr) (n cap : Nat) (cs : List (List Int)) (w : World) (hn : cs.length = n) (hc : Cls w a cs) :
    Calls Try.prog 10 #[.agg #[.int .i64 vars, .slice a n cap]] w fun e w' => e = .returned (.tuple #[.int .i64 (Tru.countV vars cs), .int .i64 (Tru.taken vars cs)]) ∧ Below w.heap.size w w' := by
  unfold Tru.countV
  by_cases ht : Tru.taken vars cs = 0
  · obtain ⟨u, rfl, h16, hN, hL, hv⟩ := Tru.taken_zero vars cs ht
    rw [if_pos ht, ht, Int.toNat_natCast]
    exact count10 u a n cap cs w hn hc ht h16 (by omega) hL hv
  · rw [if_neg ht]
    exact count10_err vars a n cap cs w hn hc ht
theorem count11_all (vars : Int) (a : Option Addr) (n cap : Nat) (cs : List (List Int)) (w : World) (hn : cs.length = n) (hc : Cls w a cs) :
    Calls Try.prog 11 #[.agg #[.int .i64 vars, .slice a n cap]] w fun e w' => e = .returned (.tuple #[.int .i64 (Tru.countV vars cs), .int .i64 (Tru.taken vars cs)]) ∧ Below w.heap.size w w' := by
  unfold Tru.countV
  by_cases ht : Tru.taken vars cs = 0
  · obtain ⟨u, rfl, h16, hN, hL, hv⟩ := Tru.taken_zero vars cs ht
    rw [if_pos ht, ht, Int.toNat_natCast]
    exact count11 u a n cap cs w hn hc ht h16 (by omega) hL
  · rw [if_neg ht]
    exact count11_err vars a n cap cs w hn hc ht
theorem implies14_all (vars : Int) (a ac : Option Addr) (n cap m capc : Nat) (cs : List (List Int)) (c : List Int) (w : World) (hn : cs.length = n) (hc : Cls w a cs) (hm : c.length = m) (hM : m ≤ 1099511627776) (hcl : Lits w ac c) :
    Calls Try.prog 14 #[.agg #[.int .i64 vars, .slice a n cap], .slice ac m capc] w fun e w' => e = .returned (.tuple #[.bool (Tru.impB vars cs c), .int .i64 (Tru.impE vars cs c)]) ∧ Below w.heap.size w w' := by
  unfold Tru.impB Tru.impE
  by_cases ht : Tru.taken vars cs = 0
  · obtain ⟨u, rfl, h16, hN, hL, hv⟩ := Tru.taken_zero vars cs ht
    rw [if_pos ht, decide_eq_true ht, Int.toNat_natCast, Bool.true_and]
    exact implies14 u a ac n cap m capc cs c w hn hc hm hM hcl ht h16 (by omega) hL hv
  · rw [if_neg ht, decide_eq_false ht, Bool.false_and]
    exact implies14_err vars a ac n cap m capc cs w hn hc ht
theorem implies15_all (vars : Int) (a ac : Option Addr) (n cap m capc : Nat) (cs : List (List Int)) (c : List Int) (w : World) (hn : cs.length = n) (hc : Cls w a cs) (hm : c.length = m) (hM : m ≤ 1099511627776) (hcl : Lits w ac c) :
    Calls Try.prog 15 #[.agg #[.int .i64 vars, .slice a n cap], .slice ac m capc] w fun e w' => e = .returned (.tuple #[.bool (Tru.impB vars cs c), .int .i64 (Tru.impE vars cs c)]) ∧ Below w.heap.size w w' := by
  unfold Tru.impB Tru.impE
  by_cases ht : Tru.taken vars cs = 0
  · obtain ⟨u, rfl, h16, hN, hL, hv⟩ := Tru.taken_zero vars cs ht
    rw [if_pos ht, decide_eq_true ht, Int.toNat_natCast, Bool.true_and]
    exact implies15 u a ac n cap m capc cs c w hn hc hm hM hcl ht h16 (by omega) hL
  · rw [if_neg ht, decide_eq_false ht, Bool.false_and]
    exact implies15_err vars a ac n cap m capc cs w hn hc ht
theorem alike16_all (vars wars : Int) (a b : Option Addr) (n cap m dap : Nat) (cs ds : List (List Int)) (w : World) (hn : cs.length = n) (hc : Cls w a cs) (hm : ds.length = m) (hd : Cls w b ds) :
    Calls Try.prog 16 #[.agg #[.int .i64 vars, .slice a n cap], .agg #[.int .i64 wars, .slice b m dap]] w fun e w' => e = .returned (.tuple #[.bool (Tru.alB vars cs wars ds), .int .i64 (Tru.alE vars cs wars ds)]) ∧ Below w.heap.size w w' := by
  unfold Tru.alB Tru.alE
  by_cases ht : Tru.taken vars cs = 0
  · by_cases hs : Tru.taken wars ds = 0
    · by_cases hvw : vars = wars
      · subst hvw
        obtain ⟨u, rfl, h16, hN, hL, hv⟩ := Tru.taken_zero vars cs ht
        obtain ⟨u2, hu2, _, hN2, hL2, hv2⟩ := Tru.taken_zero _ ds hs
        obtain rfl : u = u2 := by omega
        rw [if_pos ht, if_pos hs, if_pos rfl, decide_eq_true ht, decide_eq_true hs, decide_eq_true rfl, Int.toNat_natCast]
        exact alike16 u a b n cap m dap cs ds w hn hc hm hd ht hs h16 (by omega) hL (by omega) hL2 hv hv2
      · rw [if_pos ht, if_pos hs, if_neg hvw, decide_eq_false hvw, Bool.and_false, Bool.false_and]
        exact alike16_arg vars wars a b n cap m dap cs ds w hn hc hm hd ht hs (by simpa using hvw)
    · rw [if_pos ht, if_neg hs, decide_eq_false hs, Bool.and_false, Bool.false_and, Bool.false_and]
      have := alike16_err vars wars a b n cap m dap cs ds w hn hc hm hd (by unfold Tru.or2; rw [if_pos ht]; exact hs)
      rw [show Tru.or2 (Tru.taken vars cs) (Tru.taken wars ds) = Tru.taken wars ds by unfold Tru.or2; rw [if_pos ht]] at this
      exact this
  · rw [if_neg ht, decide_eq_false ht, Bool.false_and, Bool.false_and, Bool.false_and]
    have := alike16_err vars wars a b n cap m dap cs ds w hn hc hm hd (by unfold Tru.or2; rw [if_neg ht]; exact ht)
    rw [show Tru.or2 (Tru.taken vars cs) (Tru.taken wars ds) = Tru.taken vars cs by unfold Tru.or2; rw [if_neg ht]] at this
    exact this
theorem alike17_all (vars wars : Int) (a b : Option Addr) (n cap m dap : Nat) (cs ds : List (List Int)) (w : World) (hn : cs.length = n) (hc : Cls w a cs) (hm : ds.length = m) (hd : Cls w b ds) :
    Calls Try.prog 17 #[.agg #[.int .i64 vars, .slice a n cap], .agg #[.int .i64 wars, .slice b m dap]] w fun e w' => e = .returned (.tuple #[.bool (Tru.alB vars cs wars ds), .int .i64 (Tru.alE vars cs wars ds)]) ∧ Below w.heap.size w w' := by
  unfold Tru.alB Tru.alE
  by_cases ht : Tru.taken vars cs = 0
  · by_cases hs : Tru.taken wars ds = 0
    · by_cases hvw : vars = wars
      · subst hvw
        obtain ⟨u, rfl, h16, hN, hL, hv⟩ := Tru.taken_zero vars cs ht
        obtain ⟨u2, hu2, _, hN2, hL2, hv2⟩ := Tru.taken_zero _ ds hs
        rw [if_pos ht, if_pos hs, if_pos rfl, decide_eq_true ht, decide_eq_true hs, decide_eq_true rfl, Int.toNat_natCast]
        exact alike17 u a b n cap m dap cs ds w hn hc hm hd ht hs h16 (by omega) hL (by omega) hL2
      · rw [if_pos ht, if_pos hs, if_neg hvw, decide_eq_false hvw, Bool.and_false, Bool.false_and]
        exact alike17_arg vars wars a b n cap m dap cs ds w hn hc hm hd ht hs (by simpa using hvw)
    · rw [if_pos ht, if_neg hs, decide_eq_false hs, Bool.and_false, Bool.false_and, Bool.false_and]
      exact alike17_err2 vars wars a b n cap m dap cs ds w hn hc hm hd ht hs
  · rw [if_neg ht, decide_eq_false ht, Bool.false_and, Bool.false_and, Bool.false_and]
    exact alike17_err vars wars a b n cap m dap cs w hn hc ht
end Go.Proofs.Ytccncojidkdddaa
