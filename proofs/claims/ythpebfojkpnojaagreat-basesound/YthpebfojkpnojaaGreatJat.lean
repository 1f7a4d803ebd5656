/- Clauses as two masks of bits: what the masks say is what the clauses say; plain functions over numbers. -/
import Derived.Test.YthpebfojkpnojaaGreatJar
import Derived.Test.YthpebfojkpnojaaGreatJas
import Derived.RangeFuncBox
import Derived.Laws.BitsLemmas
import Derived.Deep.RegionWith
/- Clauses as two masks of bits: what the masks say is what the clauses say; plain functions over numbers. -/
namespace Tru
set_option linter.unusedVariables false

def bit (l : Int) : Nat := 2 ^ (Cnt.vr l - 1).toNat
def turn (p : Nat × Nat) (l : Int) : Nat × Nat := if 0 < l then (p.1, p.2 ||| bit l) else (p.1 ||| bit l, p.2)
def mask (c : List Int) : Nat × Nat := c.foldl turn (0, 0)
def mh (p : Nat × Nat) (k : Nat) : Bool := ((4294967295 ^^^ k) &&& p.1 != 0) || (k &&& p.2 != 0)
def always (p : Nat × Nat) : Bool := p.1 &&& p.2 != 0
def high (p : Nat × Nat) : Nat × Nat := (p.1 / 256 * 256, p.2 / 256 * 256)
/-- The k-th model of n variables. -/
def model (n k : Nat) : List Bool := (List.range n).map (fun i => k.testBit i)
def small (p : Nat × Nat) : Prop := p.1 < 65536 ∧ p.2 < 65536

theorem model_len (n k : Nat) : (model n k).length = n := by simp [model]
theorem model_get (n k i : Nat) (h : i < n) : (model n k).getD i false = k.testBit i := by
  simp [model, List.getD, h]

theorem and_ne (x y : Nat) : (x &&& y != 0) = true ↔ ∃ i, x.testBit i = true ∧ y.testBit i = true := by
  rw [bne_iff_ne]
  constructor
  · intro h
    obtain ⟨i, hi⟩ := Nat.exists_testBit_of_ne_zero h
    rw [Nat.testBit_and, Bool.and_eq_true] at hi
    exact ⟨i, hi⟩
  · rintro ⟨i, h1, h2⟩ h
    have := Nat.testBit_and x y i
    rw [h, h1, h2] at this
    simp at this

theorem turn_small (p : Nat × Nat) (l : Int) (hp : small p) (h1 : 1 ≤ Cnt.vr l) (h2 : Cnt.vr l ≤ 16) : small (turn p l) := by
  have hb : bit l < 2 ^ 16 := by
    unfold bit
    exact Nat.pow_lt_pow_right (by decide) (by omega)
  obtain ⟨a, b⟩ := hp
  unfold turn
  split
  · exact ⟨a, Nat.or_lt_two_pow (n := 16) b hb⟩
  · exact ⟨Nat.or_lt_two_pow (n := 16) a hb, b⟩
theorem fold_small (c : List Int) : ∀ p, small p → (∀ l ∈ c, 1 ≤ Cnt.vr l ∧ Cnt.vr l ≤ 16) → small (c.foldl turn p) := by
  induction c with
  | nil => intro p hp _; exact hp
  | cons l c ih =>
    intro p hp h
    exact ih _ (turn_small p l hp (h l (by simp)).1 (h l (by simp)).2) (fun x hx => h x (by simp [hx]))
theorem mask_small (c : List Int) (h : ∀ l ∈ c, 1 ≤ Cnt.vr l ∧ Cnt.vr l ≤ 16) : small (mask c) := fold_small c _ ⟨by decide, by decide⟩ h

theorem bit_test (l : Int) (i : Nat) : (bit l).testBit i = decide ((Cnt.vr l - 1).toNat = i) := by
  unfold bit; exact Nat.testBit_two_pow
theorem fold_test (c : List Int) : ∀ p i, ((c.foldl turn p).1.testBit i = true ↔ p.1.testBit i = true ∨ ∃ l ∈ c, ¬ 0 < l ∧ (Cnt.vr l - 1).toNat = i) ∧ ((c.foldl turn p).2.testBit i = true ↔ p.2.testBit i = true ∨ ∃ l ∈ c, 0 < l ∧ (Cnt.vr l - 1).toNat = i) := by
  induction c with
  | nil => intro p i; simp
  | cons l c ih =>
    intro p i
    rw [List.foldl_cons]
    obtain ⟨h1, h2⟩ := ih (turn p l) i
    rw [h1, h2]
    unfold turn
    by_cases h : 0 < l
    · simp only [h, if_true, Nat.testBit_or, bit_test, Bool.or_eq_true, decide_eq_true_eq, List.mem_cons, exists_eq_or_imp, not_true_eq_false, false_and, false_or, true_and, or_assoc, and_self]
    · simp only [h, if_false, Nat.testBit_or, bit_test, Bool.or_eq_true, decide_eq_true_eq, List.mem_cons, exists_eq_or_imp, not_false_eq_true, false_and, false_or, true_and, or_assoc, and_self]
theorem mask_neg (c : List Int) (i : Nat) : (mask c).1.testBit i = true ↔ ∃ l ∈ c, ¬ 0 < l ∧ (Cnt.vr l - 1).toNat = i := by
  rw [mask, (fold_test c (0, 0) i).1]; simp
theorem mask_pos (c : List Int) (i : Nat) : (mask c).2.testBit i = true ↔ ∃ l ∈ c, 0 < l ∧ (Cnt.vr l - 1).toNat = i := by
  rw [mask, (fold_test c (0, 0) i).2]; simp

theorem test_lt (x i : Nat) (hx : x < 65536) (h : x.testBit i = true) : i < 16 := by
  rcases Nat.lt_or_ge i 16 with h' | h'
  · exact h'
  · have : x.testBit i = false := Nat.testBit_lt_two_pow (Nat.lt_of_lt_of_le hx (Nat.pow_le_pow_right (n := 2) (by decide) h'))
    rw [this] at h; cases h
theorem not_test (k i : Nat) (h : i < 32) : (4294967295 ^^^ k).testBit i = !k.testBit i := by
  rw [Nat.testBit_xor, show (4294967295 : Nat) = 2 ^ 32 - 1 from rfl, Nat.testBit_two_pow_sub_one]
  simp [h]

theorem mh_iff (p : Nat × Nat) (k : Nat) (hp : small p) : mh p k = true ↔ ∃ i, i < 16 ∧ ((k.testBit i = false ∧ p.1.testBit i = true) ∨ (k.testBit i = true ∧ p.2.testBit i = true)) := by
  unfold mh
  rw [Bool.or_eq_true, and_ne, and_ne]
  constructor
  · rintro (⟨i, h1, h2⟩ | ⟨i, h1, h2⟩)
    · have hi := test_lt _ _ hp.1 h2
      rw [not_test k i (by omega)] at h1
      exact ⟨i, hi, .inl ⟨by simpa using h1, h2⟩⟩
    · exact ⟨i, test_lt _ _ hp.2 h2, .inr ⟨h1, h2⟩⟩
  · rintro ⟨i, hi, ⟨h1, h2⟩ | ⟨h1, h2⟩⟩
    · exact .inl ⟨i, by rw [not_test k i (by omega), h1]; rfl, h2⟩
    · exact .inr ⟨i, h1, h2⟩

theorem tr_iff (l : Int) (n k : Nat) (h1 : 1 ≤ Cnt.vr l) (h2 : Cnt.vr l ≤ n) : Cnt.tr l (model n k) = (k.testBit (Cnt.vr l - 1).toNat == decide (0 < l)) := by
  unfold Cnt.tr
  rw [model_len, model_get n k _ (by omega)]
  simp [h1, h2]

theorem mh_mask (c : List Int) (n k : Nat) (hn : n ≤ 16) (h : ∀ l ∈ c, 1 ≤ Cnt.vr l ∧ Cnt.vr l ≤ n) : mh (mask c) k = Cnt.val c (model n k) := by
  have hs := mask_small c (fun l hl => ⟨(h l hl).1, by have := (h l hl).2; omega⟩)
  rw [Bool.eq_iff_iff, mh_iff _ _ hs, Cnt.val, List.any_eq_true]
  constructor
  · rintro ⟨i, hi, ⟨h1, h2⟩ | ⟨h1, h2⟩⟩
    · obtain ⟨l, hl, h3, h4⟩ := (mask_neg c i).1 h2
      refine ⟨l, hl, ?_⟩
      rw [tr_iff l n k (h l hl).1 (h l hl).2, h4, h1]
      simpa using h3
    · obtain ⟨l, hl, h3, h4⟩ := (mask_pos c i).1 h2
      refine ⟨l, hl, ?_⟩
      rw [tr_iff l n k (h l hl).1 (h l hl).2, h4, h1]
      simpa using h3
  · rintro ⟨l, hl, ht⟩
    rw [tr_iff l n k (h l hl).1 (h l hl).2] at ht
    have h1 := (h l hl).1
    have h2 := (h l hl).2
    refine ⟨(Cnt.vr l - 1).toNat, by omega, ?_⟩
    by_cases hp : 0 < l
    · rw [decide_eq_true hp] at ht
      exact .inr ⟨by simpa using ht, (mask_pos c _).2 ⟨l, hl, hp, rfl⟩⟩
    · rw [decide_eq_false hp] at ht
      exact .inl ⟨by simpa using ht, (mask_neg c _).2 ⟨l, hl, hp, rfl⟩⟩

theorem always_mh (p : Nat × Nat) (k : Nat) (hp : small p) (h : always p = true) : mh p k = true := by
  obtain ⟨i, h1, h2⟩ := (and_ne _ _).1 h
  rw [mh_iff p k hp]
  cases hk : k.testBit i
  · exact ⟨i, test_lt _ _ hp.1 h1, .inl ⟨hk, h1⟩⟩
  · exact ⟨i, test_lt _ _ hp.1 h1, .inr ⟨hk, h2⟩⟩

theorem high_small (p : Nat × Nat) (hp : small p) : small (high p) := by
  obtain ⟨h1, h2⟩ := hp
  unfold high small
  simp only
  omega
theorem div_test (x i : Nat) : (x / 256 * 256).testBit i = (decide (8 ≤ i) && x.testBit i) := by
  have e : x / 256 * 256 = 2 ^ 8 * (x / 2 ^ 8) := by rw [Nat.mul_comm]
  rw [e, Nat.testBit_two_pow_mul, Nat.testBit_div_two_pow]
  by_cases h : 8 ≤ i
  · simp [h]
  · simp [h]
theorem high_mh (p : Nat × Nat) (k : Nat) (hp : small p) (h : mh (high p) (k / 256 * 256) = true) : mh p k = true := by
  rw [mh_iff _ _ (high_small p hp)] at h
  rw [mh_iff _ _ hp]
  obtain ⟨i, hi, h⟩ := h
  refine ⟨i, hi, ?_⟩
  unfold high at h
  simp only [div_test] at h
  by_cases h8 : 8 ≤ i
  · simpa [h8] using h
  · simp [h8] at h

/-- All masks of a row hold at k. -/
def allH (ms : List (Nat × Nat)) (k : Nat) : Bool := ms.all (fun p => mh p k)
def openAt (ms : List (Nat × Nat)) (b : Nat) : List (Nat × Nat) := ms.filter (fun p => !mh (high p) (b * 256))
theorem allH_open (ms : List (Nat × Nat)) (k : Nat) (hs : ∀ p ∈ ms, small p) : allH (openAt ms (k / 256)) k = allH ms k := by
  unfold allH openAt
  rw [Bool.eq_iff_iff, List.all_eq_true, List.all_eq_true]
  constructor
  · intro h p hp
    cases ht : mh (high p) (k / 256 * 256)
    · exact h p (List.mem_filter.2 ⟨hp, by rw [ht]; rfl⟩)
    · exact high_mh p k (hs p hp) ht
  · intro h p hp
    exact h p (List.mem_filter.1 hp).1

/-- The masks of a formula's clauses, but for those that are always true. -/
def masks (cs : List (List Int)) : List (Nat × Nat) := (cs.map mask).filter (fun p => !always p)
theorem masks_small (cs : List (List Int)) (n : Nat) (hn : n ≤ 16) (h : ∀ c ∈ cs, ∀ l ∈ c, 1 ≤ Cnt.vr l ∧ Cnt.vr l ≤ n) : ∀ p ∈ masks cs, small p := by
  intro p hp
  obtain ⟨h1, _⟩ := List.mem_filter.1 hp
  obtain ⟨c, hc, rfl⟩ := List.mem_map.1 h1
  exact mask_small c (fun l hl => ⟨(h c hc l hl).1, by have := (h c hc l hl).2; omega⟩)
theorem masks_holds (cs : List (List Int)) (ms : List (Nat × Nat)) (n k : Nat) (hn : n ≤ 16) (h : ∀ c ∈ cs, ∀ l ∈ c, 1 ≤ Cnt.vr l ∧ Cnt.vr l ≤ n) (hm : ∀ p, p ∈ ms ↔ p ∈ masks cs) : allH ms k = Cnt.holds cs (model n k) := by
  unfold allH Cnt.holds
  rw [Bool.eq_iff_iff, List.all_eq_true, List.all_eq_true]
  constructor
  · intro h1 c hc
    rw [← mh_mask c n k hn (h c hc)]
    cases ha : always (mask c)
    · exact h1 _ ((hm _).2 (List.mem_filter.2 ⟨List.mem_map.2 ⟨c, hc, rfl⟩, by rw [ha]; rfl⟩))
    · exact always_mh _ _ (mask_small c (fun l hl => ⟨(h c hc l hl).1, by have := (h c hc l hl).2; omega⟩)) ha
  · intro h1 p hp
    obtain ⟨h2, _⟩ := List.mem_filter.1 ((hm p).1 hp)
    obtain ⟨c, hc, rfl⟩ := List.mem_map.1 h2
    rw [mh_mask c n k hn (h c hc)]
    exact h1 c hc
end Tru

/- How great a formula is, whether it is taken, whether two models are alike: stage 3's leaves. -/
namespace Tru
/-- Why a formula is not taken. -/
def taken (vars : Int) (cs : List (List Int)) : Int := if Cnt.right vars cs = 0 then (if 16 < vars then 3 else 0) else Cnt.right vars cs
end Tru
namespace Go.Proofs.YthpebfojkpnojaaGreat.Tr
open Go.RowKit
set_option linter.unusedVariables false

theorem box_below (w : World) (o : Obj) {w' : World} (h : Below (w.alloc o).heap.size (w.alloc o) w') : Below w.heap.size w w' := (below_box w o).trans (h.mono (by simp))
theorem row_cell {W : World} {b : Nat} {cs : Array Value} {t : TypeId} {fr : Nat × Nat} (h : W.heap[b]? = some (.cells cs t fr)) (k : Nat) : W.cell? ⟨b, k, none⟩ = cs[k]? := by
  simp [World.cell?, h]

/-- A world in which the call's own box lies. -/
def Far (w : World) (v0 v1 : Value) (W : World) : Prop := Below (w.alloc (.cells #[v0, v1] 24)).heap.size (w.alloc (.cells #[v0, v1] 24)) W
theorem Far.below {w : World} {v0 v1 : Value} {W : World} (h : Far w v0 v1 W) : Below w.heap.size w W := box_below w _ h
theorem Far.on {w : World} {v0 v1 : Value} {W W' : World} (h : Far w v0 v1 W) (hb : Below W.heap.size W W') : Far w v0 v1 W' := Below.trans h (hb.mono (Below.size h))
theorem Far.c0 {w : World} {v0 v1 : Value} {W : World} (h : Far w v0 v1 W) : W.cell? ⟨w.heap.size, 0, none⟩ = some v0 := by
  have := row_cell (World.alloc_heap_new w (.cells #[v0, v1] 24)) 0
  exact (Below.cell h (p := ⟨w.heap.size, 0, none⟩) (by simp)).trans this
theorem Far.c1 {w : World} {v0 v1 : Value} {W : World} (h : Far w v0 v1 W) : W.cell? ⟨w.heap.size, 1, none⟩ = some v1 := by
  have := row_cell (World.alloc_heap_new w (.cells #[v0, v1] 24)) 1
  exact (Below.cell h (p := ⟨w.heap.size, 1, none⟩) (by simp)).trans this

/-- What small tells. -/
def SmallOut (vars : Int) (n : Nat) (cs : List (List Int)) (e : Ending) : Prop := ∃ b : Bool, e = .returned (.bool b) ∧ (b = true → n ≤ 60 ∧ cs.flatten.length ≤ 300 ∧ (vars ≤ 12 ∨ 16 < vars))

set_option maxHeartbeats 2000000 in
theorem taken19 (vars : Int) (a : Option Addr) (n cap : Nat) (cs : List (List Int)) (w : World) (hn : cs.length = n) (hc : Cls w a cs) :
    Calls Tryz.prog 70 #[.agg #[.int .i64 vars, .slice a n cap]] w fun e w' => e = .returned (.int .i64 (Tru.taken vars cs)) ∧ Below w.heap.size w w' := by
  have C := hid (right34 vars a n cap cs (w.alloc (.cells #[.int .i64 vars, .slice a n cap] 24)) hn (hc.below (below_box _ _)))
  unfold Tru.taken
  generalize Cnt.right vars cs = r at C
  clear hc hn
  by_cases hr : r = 0
  · subst hr
    rw [if_pos rfl]
    by_cases h16 : 16 < vars
    · rw [if_pos h16]
      go_enter Tryz.func70, Tryz.ntmps70
      go_wp2_with (go_at_call 33; refine C.out.mono ?_; clear C; rintro e W2 ⟨rfl, hb⟩; have far := (show Far w (.int .i64 vars) (.slice a n cap) W2 from hb); have x0 := far.c0; replace far := hid far; clear hb)
      go_ret
      exact ⟨rfl, far.out.below⟩
    · rw [if_neg h16]
      go_enter Tryz.func70, Tryz.ntmps70
      go_wp2_with (go_at_call 33; refine C.out.mono ?_; clear C; rintro e W2 ⟨rfl, hb⟩; have far := (show Far w (.int .i64 vars) (.slice a n cap) W2 from hb); have x0 := far.c0; replace far := hid far; clear hb)
      go_ret
      exact ⟨rfl, far.out.below⟩
  · rw [if_neg hr]
    go_enter Tryz.func70, Tryz.ntmps70
    go_wp2_with (go_at_call 33; refine C.out.mono ?_; clear C; rintro e W2 ⟨rfl, hb⟩; have far := (show Far w (.int .i64 vars) (.slice a n cap) W2 from hb); have x0 := far.c0; replace far := hid far; clear hb)
    go_ret
    exact ⟨rfl, far.out.below⟩

end Go.Proofs.YthpebfojkpnojaaGreat.Tr

/- The methods of a clause's two masks. -/
namespace Go.Proofs.YthpebfojkpnojaaGreat.Tr
open Go.RowKit
set_option linter.unusedVariables false

theorem wraps_u32 (n : Int) (h0 : 0 ≤ n) (h1 : n < 2 ^ 32) : IntKind.u32.wrap n = n := by rw [IntKind.wrap_u32]; omega
theorem and32 (a b : Nat) (ha : a < 4294967296) (hb : b < 4294967296) : bits .and .u32 (a : Int) (b : Int) = ((a &&& b : Nat) : Int) := (bits_nat .u32 32 (by decide) wraps_u32 a b ha hb).1
theorem or32 (a b : Nat) (ha : a < 4294967296) (hb : b < 4294967296) : bits .or .u32 (a : Int) (b : Int) = ((a ||| b : Nat) : Int) := (bits_nat .u32 32 (by decide) wraps_u32 a b ha hb).2
theorem xor32 (a b : Nat) (ha : a < 4294967296) (hb : b < 4294967296) : bits .xor .u32 (a : Int) (b : Int) = ((a ^^^ b : Nat) : Int) := by
  have hx : a ^^^ b < 2 ^ 32 := Nat.xor_lt_two_pow (by omega) (by omega)
  have h1 : (BitVec.ofInt 32 (a : Int)).toNat = a := by
    rw [BitVec.ofInt_natCast, BitVec.toNat_ofNat]; exact Nat.mod_eq_of_lt (by omega)
  have h2 : (BitVec.ofInt 32 (b : Int)).toNat = b := by
    rw [BitVec.ofInt_natCast, BitVec.toNat_ofNat]; exact Nat.mod_eq_of_lt (by omega)
  show IntKind.u32.wrap ((BitVec.ofInt 32 (a : Int) ^^^ BitVec.ofInt 32 (b : Int)).toNat : Int) = _
  rw [BitVec.toNat_xor, h1, h2, IntKind.wrap_u32]
  omega

theorem nat_bne (n : Nat) : ((n : Int) != 0) = (n != 0) := by
  rw [Bool.eq_iff_iff, bne_iff_ne, bne_iff_ne]
  omega

set_option maxHeartbeats 2000000 in
theorem mholds29 (a b k : Nat) (w : World) (ha : a < 65536) (hb : b < 65536) (hk : k < 65536) :
    Calls Tryz.prog 76 #[.agg #[.int .u32 a, .int .u32 b], .int .i64 k] w fun e w' => e = .returned (.bool (Tru.mh (a, b) k)) ∧ Below w.heap.size w w' := by
  have hx : bits .xor .u32 IntKind.u32.max (k : Int) = ((4294967295 ^^^ k : Nat) : Int) := xor32 4294967295 k (by decide) (by omega)
  have hx2 : 4294967295 ^^^ k < 2 ^ 32 := Nat.xor_lt_two_pow (by decide) (by omega)
  have e1 : bits .and .u32 (bits .xor .u32 IntKind.u32.max (k : Int)) a = (((4294967295 ^^^ k) &&& a : Nat) : Int) := by rw [hx]; exact and32 _ a (by omega) (by omega)
  have e2 : bits .and .u32 (k : Int) b = ((k &&& b : Nat) : Int) := and32 k b (by omega) (by omega)
  have hm : Tru.mh (a, b) k = (((4294967295 ^^^ k) &&& a) != 0 || (k &&& b) != 0) := rfl
  generalize (4294967295 ^^^ k) &&& a = P at e1 hm
  generalize k &&& b = Q at e2 hm
  have HM := hid hm
  have hk0 : (0 : Int) ≤ k := by omega
  have hk2 : (k : Int) < 4294967296 := by omega
  clear hx hx2 hm ha hb hk
  generalize (k : Int) = K at e1 e2 hk0 hk2
  generalize (a : Int) = A at e1
  generalize (b : Int) = B at e2
  by_cases hP : P = 0
  · have hP' : (P : Int) = 0 := by omega
    have HM2 := hid (show Tru.mh (a, b) k = ((Q : Int) != 0) by rw [HM.out, hP, nat_bne]; rfl)
    clear HM hP
    go_enter Tryz.func76, Tryz.ntmps76
    go_wp2
    go_ret
    exact ⟨ret_bool HM2.out.symm, below_box _ _⟩
  · have hP' : ¬ (P : Int) = 0 := by omega
    have HM2 := hid (show Tru.mh (a, b) k = true by rw [HM.out]; simp [hP])
    clear HM hP
    go_enter Tryz.func76, Tryz.ntmps76
    go_wp2
    go_ret
    exact ⟨ret_bool HM2.out.symm, below_box _ _⟩

set_option maxHeartbeats 2000000 in
theorem always36 (a b : Nat) (w : World) (ha : a < 65536) (hb : b < 65536) :
    Calls Tryz.prog 102 #[.agg #[.int .u32 a, .int .u32 b]] w fun e w' => e = .returned (.bool (Tru.always (a, b))) ∧ Below w.heap.size w w' := by
  have e1 : bits .and .u32 (a : Int) b = ((a &&& b : Nat) : Int) := and32 a b (by omega) (by omega)
  have hm : Tru.always (a, b) = ((a &&& b) != 0) := rfl
  generalize a &&& b = P at e1 hm
  have HM := hid hm
  clear hm ha hb
  go_enter Tryz.func102, Tryz.ntmps102
  go_wp2
  go_ret
  exact ⟨ret_bool (by rw [HM.out, nat_bne]), below_box _ _⟩

theorem heap_new2 (w : World) (o o' : Obj) : ((w.alloc o).alloc o').heap[w.heap.size + 1]? = some o' := by
  have := World.alloc_heap_new (w.alloc o) o'
  simpa using this

set_option maxHeartbeats 2000000 in
theorem high48 (a b : Nat) (w : World) (ha : a < 65536) (hb : b < 65536) :
    Calls Tryz.prog 118 #[.agg #[.int .u32 a, .int .u32 b]] w fun e w' => e = .returned (.agg #[.int .u32 (Tru.high (a, b)).1, .int .u32 (Tru.high (a, b)).2]) ∧ Below w.heap.size w w' := by
  have ha' : (a : Int) < 65536 := by omega
  have hb' : (b : Int) < 65536 := by omega
  clear ha hb
  go_enter Tryz.func118, Tryz.ntmps118
  go_wp2
  refine bodyPost_ret (results_cell_row rfl _ _ (w.heap.size + 1) 122 #[.int .u32 ((a : Int) / 256 * 256), .int .u32 ((b : Int) / 256 * 256)] (0, 0) _ rfl (heap_new2 w _ _) Tryz.underlying122 rfl (by kernel_rfl)) rfl ?_
  refine ⟨?_, (below_box _ _).trans ((below_box _ _).mono (by simp))⟩
  show _ = Ending.returned (.agg #[.int .u32 ((a / 256 * 256 : Nat) : Int), .int .u32 ((b / 256 * 256 : Nat) : Int)])
  rw [show ((a / 256 * 256 : Nat) : Int) = (a : Int) / 256 * 256 by omega, show ((b / 256 * 256 : Nat) : Int) = (b : Int) / 256 * 256 by omega]
end Go.Proofs.YthpebfojkpnojaaGreat.Tr

/- A clause turned into its two masks. -/
namespace Tru
theorem mask_take (xs : List Int) (k : Nat) (h : k < xs.length) : mask (xs.take (k + 1)) = turn (mask (xs.take k)) (xs.getD k 0) := by
  unfold mask
  rw [Cnt.take_snoc xs k h, List.foldl_append]
  rfl
end Tru
namespace Go.Proofs.YthpebfojkpnojaaGreat.Tr
open Go.RowKit
set_option linter.unusedVariables false

theorem row_frozen {W : World} {b : Nat} {cs : Array Value} {t : TypeId} (h : W.heap[b]? = some (.cells cs t (0, 0))) (k : Nat) : W.frozen? ⟨b, k, none⟩ = false := by
  simp [World.frozen?, h]

theorem heap_other (W : World) {b k x : Nat} (u : Value) (hne : x ≠ b) : (W.setCell ⟨b, k, none⟩ u).heap[x]? = W.heap[x]? := Below.heap_setCell W ⟨b, k, none⟩ u x hne
theorem heap_set_row {W : World} {b k : Nat} {cs : Array Value} {t : TypeId} {fr : Nat × Nat} (h : W.heap[b]? = some (.cells cs t fr)) (v : Value) : (W.setCell ⟨b, k, none⟩ v).heap[b]? = some (.cells (cs.setIfInBounds k v) t fr) := by
  simp [World.setCell, Array.getElem?_modify, h]

set_option maxRecDepth 100000 in
set_option maxHeartbeats 4000000 in
theorem turned28 (a : Option Addr) (n cap : Nat) (xs : List Int) (w : World) (hn : xs.length = n) (hb : n ≤ 1099511627776) (hx : Lits w a xs) (hv : ∀ l ∈ xs, 1 ≤ Cnt.vr l ∧ Cnt.vr l ≤ 16) :
    Calls Tryz.prog 72 #[.slice a n cap] w fun e w' => e = .returned (.agg #[.int .u32 (Tru.mask xs).1, .int .u32 (Tru.mask xs).2]) ∧ Below w.heap.size w w' := by
  have HX := hid hx
  have HN := hid hn
  have HV := hid hv
  obtain ⟨W2, hW2⟩ : ∃ W2, (w.alloc (.cells #[.int .u32 0, .int .u32 0] 122)).alloc (.cells #[.int .u32 0, .int .u32 0] 122) = W2 := ⟨_, rfl⟩
  have hB2 : Below w.heap.size w W2 := by rw [← hW2]; exact (below_box _ _).trans ((below_box _ _).mono (by simp))
  have h0 : W2.heap[w.heap.size]? = some (.cells #[.int .u32 0, .int .u32 0] 122 (0, 0)) := by rw [← hW2, Below.heap_alloc _ _ _ (by simp)]; exact World.alloc_heap_new w _
  have h1 : W2.heap[w.heap.size + 1]? = some (.cells #[.int .u32 ((0 : Nat) : Int), .int .u32 ((0 : Nat) : Int)] 122 (0, 0)) := by rw [← hW2]; exact heap_new2 w _ _
  have H0 := hid h0
  have H1 := hid h1
  have HB2 := hid hB2
  have HW := hid hW2
  clear hx hn hv hB2 h0 h1 hW2
  go_enter Tryz.func72, Tryz.ntmps72
  go_wp2
  rw [HW.out]
  clear HW
  go_loopw [9] (fun i wr => ∃ (k : Nat) (p q : Nat), k ≤ n ∧ i = .int .i64 k ∧ Hid ((p, q) = Tru.mask (xs.take k)) ∧ p < 65536 ∧ q < 65536 ∧ Hid (wr.heap[w.heap.size]? = some (.cells #[.int .u32 0, .int .u32 0] 122 (0, 0))) ∧ Hid (wr.heap[w.heap.size + 1]? = some (.cells #[.int .u32 p, .int .u32 q] 122 (0, 0))) ∧ Hid (Below w.heap.size w wr)) (fun i _ => n - (intOf i).toNat)
  case atStart => exact ⟨0, 0, 0, Nat.zero_le _, rfl, hid rfl, by decide, by decide, H0, H1, HB2⟩
  case round =>
    clear H0 H1 HB2
    obtain ⟨k, p, q, hk, rfl, HP, hp, hq, H0, H1, HB⟩ := hrel
    have x0 := row_cell H1.out 0
    have x1 := row_cell H1.out 1
    simp only [List.getElem?_toArray, List.getElem?_cons_zero, List.getElem?_cons_succ] at x0 x1
    have f0 := row_frozen H1.out 0
    have f1 := row_frozen H1.out 1
    by_cases hlt : k < n
    · obtain ⟨b1, o1, rfl, hc1, hx1, hx2⟩ := HX.out.at (k := k) (by rw [HN.out]; exact hlt)
      have hc := (HB.out.cell (p := ⟨b1, o1 + k, none⟩) (World.block_lt_of_cell? w _ hc1)).trans hc1
      have HT := hid (Tru.mask_take xs k (by rw [HN.out]; exact hlt))
      have hvl := HV.out _ (Cnt.getD_mem xs k (by rw [HN.out]; exact hlt))
      generalize xs.getD k 0 = l at hc hx1 hx2 HT hvl
      have hlt' : (k : Int) < n := by omega
      have C27 := hid (fun (W : World) => var27 l W hx1 hx2)
      obtain ⟨d, hd⟩ : ∃ d : Nat, Cnt.vr l = (d : Int) + 1 := ⟨(Cnt.vr l - 1).toNat, by omega⟩
      rw [hd] at C27
      have hd15 : d ≤ 15 := by omega
      have hbit : Tru.bit l = 2 ^ d := by unfold Tru.bit; rw [hd]; congr 1; omega
      have HBT := hid hbit
      have hw2 : IntKind.u32.wrap ((2 : Int) ^ d) = ((2 ^ d : Nat) : Int) := by
        have h2 : 2 ^ d < 65536 := Nat.lt_of_le_of_lt (Nat.pow_le_pow_right (by decide) hd15) (by decide)
        have e : ((2 : Int) ^ d) = ((2 ^ d : Nat) : Int) := by simp
        rw [e, IntKind.wrap_u32]
        omega
      have hp2 : 2 ^ d < 65536 := Nat.lt_of_le_of_lt (Nat.pow_le_pow_right (by decide) hd15) (by decide)
      have o0 := or32 p (2 ^ d) (by omega) (by omega)
      have o1' := or32 q (2 ^ d) (by omega) (by omega)
      have c1 : (d : Int) + 1 - 1 = d := by omega
      have hwr : IntKind.i64.wrap (d : Int) = d := by rw [IntKind.wrap_i64]; omega
      clear hc1 hbit hvl hd
      generalize (2 ^ d : Nat) = D at hw2 o0 o1' hp2 HBT
      have HOR := hid (show p ||| D < 65536 ∧ q ||| D < 65536 from ⟨Nat.or_lt_two_pow (n := 16) hp hp2, Nat.or_lt_two_pow (n := 16) hq hp2⟩)
      by_cases hl : 0 < l
      · go_wp2
        go_region_with (go_at_call 71; refine (C27.out _).mono ?_; rintro e W7 ⟨rfl, rfl⟩)
        all_goals
          go_wp2
          go_roundw
          case rel => exact ⟨k + 1, p, q ||| D, by omega, by go_num, hid (by rw [HT.out, ← HP.out]; unfold Tru.turn; rw [if_pos hl, HBT.out]), hp, HOR.out.2, hid ((heap_other _ _ (by omega)).trans H0.out), hid (heap_set_row H1.out _), hid (HB.out.setCell (p := ⟨w.heap.size + 1, 1, none⟩) (by dsimp only; omega) _).drew⟩
          case measure => simp [intOf]; omega
      · go_wp2
        go_region_with (go_at_call 71; refine (C27.out _).mono ?_; rintro e W7 ⟨rfl, rfl⟩)
        all_goals
          go_wp2
          go_roundw
          case rel => exact ⟨k + 1, p ||| D, q, by omega, by go_num, hid (by rw [HT.out, ← HP.out]; unfold Tru.turn; rw [if_neg (by omega), HBT.out]), HOR.out.1, hq, hid ((heap_other _ _ (by omega)).trans H0.out), hid (heap_set_row H1.out _), hid (HB.out.setCell (p := ⟨w.heap.size + 1, 0, none⟩) (by dsimp only; omega) _).drew⟩
          case measure => simp [intOf]; omega
    · have hge : ¬ (k : Int) < n := by omega
      have y0 := row_cell H0.out 0
      have y1 := row_cell H0.out 1
      simp only [List.getElem?_toArray, List.getElem?_cons_zero, List.getElem?_cons_succ] at y0 y1
      have g0 := row_frozen H0.out 0
      have g1 := row_frozen H0.out 1
      have HM := hid (show (p, q) = Tru.mask xs by rw [HP.out, List.take_of_length_le (by rw [HN.out]; omega)])
      go_wp2
      refine bodyPost_ret (results_cell_row rfl _ _ w.heap.size 122 #[.int .u32 p, .int .u32 q] (0, 0) _ rfl (heap_set_row (heap_set_row H0.out _) _) Tryz.underlying122 rfl (by kernel_rfl)) rfl ?_
      refine ⟨?_, (HB.out.setCell (p := ⟨w.heap.size, 0, none⟩) (Nat.le_refl _) _).setCell (p := ⟨w.heap.size, 1, none⟩) (Nat.le_refl _) _⟩
      rw [← HM.out]
end Go.Proofs.YthpebfojkpnojaaGreat.Tr

