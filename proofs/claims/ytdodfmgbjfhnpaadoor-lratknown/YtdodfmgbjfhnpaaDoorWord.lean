/- A word's number, by the program. -/
import Derived.Test.YtdodfmgbjfhnpaaDoorBase
namespace Lra
set_option linter.unusedVariables false
def ints (S : ByteArray) : List Int := S.data.toList.map (fun b => (b.toNat : Int))
theorem ints_len (S : ByteArray) : (ints S).length = S.size := by
  unfold ints
  rw [List.length_map, Array.length_toList]
  rfl
theorem ints_get (R : ByteArray) (k : Nat) (h : k < R.size) : (ints R)[k]'(by rw [ints_len]; exact h) = (R[k].toNat : Int) := by
  unfold ints
  rw [List.getElem_map, Array.getElem_toList]
  rfl
theorem ints_getD (R : ByteArray) (k : Nat) (h : k < R.size) : (ints R).getD k 0 = (R[k].toNat : Int) := by
  rw [← ints_get R k h]
  simp [List.getD, List.getElem?_eq_getElem (show k < (ints R).length by rw [ints_len]; exact h)]
theorem ints_take (R : ByteArray) (k : Nat) (h : k < R.size) : (ints R).take (k + 1) = (ints R).take k ++ [(R[k].toNat : Int)] := by
  rw [List.take_succ_eq_append_getElem (by rw [ints_len]; exact h), ints_get R k h]
theorem ints_tail (S : ByteArray) (h : 0 < S.size) : (ints S).tail = ints (S.extract 1 S.size) := by
  unfold ints
  rw [← List.map_tail]
  congr 1
  rw [ByteArray.data_extract, Array.toList_extract]
  simp [List.extract_eq_take_drop, ← ByteArray.size_data]
  exact (List.take_of_length_le (by simp)).symm
def digit (c : Int) : Bool := decide (48 ≤ c) && decide (c ≤ 57)
def valGo (n : Nat) : List Int → Nat
  | [] => n
  | c :: cs => valGo (10 * n + (c - 48).toNat) cs
theorem valGo_snoc (n : Nat) (w : List Int) (c : Int) : valGo n (w ++ [c]) = 10 * valGo n w + (c - 48).toNat := by
  induction w generalizing n with
  | nil => simp [valGo]
  | cons x xs ih => simp [valGo, ih]
theorem valGo_ge (w : List Int) : ∀ n, n ≤ valGo n w := by
  induction w with
  | nil => intro n; exact Nat.le_refl _
  | cons c cs ih => intro n; rw [valGo]; have := ih (10 * n + (c - 48).toNat); omega
theorem valGo_append (u v : List Int) : ∀ n, valGo n (u ++ v) = valGo (valGo n u) v := by
  induction u with
  | nil => intro n; rfl
  | cons c cs ih => intro n; rw [List.cons_append, valGo, valGo, ih]
theorem val_take_le (s : List Int) (k : Nat) : valGo 0 (s.take k) ≤ valGo 0 s := by
  conv => rhs; rw [← List.take_append_drop k s, valGo_append]
  exact valGo_ge _ _
/-- What a row of digits says, noughts ahead or not. -/
def numT (d : List Int) (neg : Bool) : Option Int :=
  if (!d.all digit || decide (4611686018427387903 < valGo 0 d)) = true then none else some (if neg = true then -(valGo 0 d : Int) else valGo 0 d)
/-- What a row of digits says. -/
def numD (d : List Int) (neg : Bool) : Option Int :=
  if (d.length == 0 || (d.getD 0 0 == 48 && (neg || d != [48]))) = true then none else numT d neg
/-- What a word says. -/
def numL (w : List Int) : Option Int := if w.head? = some 45 then numD w.tail true else numD w false
theorem numT_bad (d : List Int) (neg : Bool) (k : Nat) (h : k < d.length) (hd : digit (d.getD k 0) = false) : numT d neg = none := by
  have : d.all digit = false := by
    cases h2 : d.all digit with
    | false => rfl
    | true =>
      have := List.all_eq_true.1 h2 _ (List.getElem_mem h)
      rw [show d.getD k 0 = d[k] by simp [List.getD, h]] at hd
      rw [hd] at this; cases this
  unfold numT
  rw [this]; rfl
theorem numT_big (d : List Int) (neg : Bool) (k : Nat) (h : 4611686018427387903 < valGo 0 (d.take k)) : numT d neg = none := by
  have := val_take_le d k
  unfold numT
  rw [decide_eq_true (show 4611686018427387903 < valGo 0 d by omega), Bool.or_true]; rfl
theorem numT_fit (d : List Int) (neg : Bool) (h : ∀ x ∈ d, digit x = true) (h2 : valGo 0 d ≤ 4611686018427387903) : numT d neg = some (if neg = true then -(valGo 0 d : Int) else valGo 0 d) := by
  unfold numT
  rw [decide_eq_false (show ¬ 4611686018427387903 < valGo 0 d by omega), List.all_eq_true.2 h]; rfl
end Lra
namespace Go.Proofs.YtdodfmgbjfhnpaaDoor
open Go.RowKit
set_option linter.unusedVariables false
set_option linter.unusedSimpArgs false

def CutOut (S : ByteArray) (e : Ending) : Prop := ((Lra.ints S).head? = some 45 ∧ e = .returned (.tuple #[.string (S.extract 1 S.size), .bool true])) ∨ (¬ (Lra.ints S).head? = some 45 ∧ e = .returned (.tuple #[.string S, .bool false]))

theorem toL (S : ByteArray) : S.toList = S.data.toList := by
  first
    | exact ByteArray.toList_eq ..
    | exact ByteArray.toList_data ..
    | simp
theorem head45 (S : ByteArray) (h : 0 < S.size) : ((S.extract 0 1).data.toList == [45]) = decide ((Lra.ints S).head? = some 45) := by
  obtain ⟨⟨l⟩⟩ := S
  cases l with
  | nil => exact absurd h (by decide)
  | cons b t =>
    have e1 : ((ByteArray.mk ⟨b :: t⟩).extract 0 1).data.toList = [b] := by
      rw [ByteArray.data_extract, Array.toList_extract]
      simp [List.extract_eq_take_drop]
    rw [e1]
    have e2 : (Lra.ints (ByteArray.mk ⟨b :: t⟩)).head? = some (b.toNat : Int) := rfl
    rw [e2]
    by_cases hb : b = 45
    · subst hb; rfl
    · have h5 : ¬ (b.toNat : Int) = 45 := by
        intro h5
        have h6 : b.toNat = 45 := by omega
        exact hb (UInt8.toNat_inj.mp h6)
      rw [show decide (some (b.toNat : Int) = some 45) = false from by simp [h5]]
      simp [hb]

set_option maxHeartbeats 2000000 in
theorem hasPrefix79 (S : ByteArray) (w : World) : Calls Tryd.prog 79 #[.string S, .string ⟨#[45]⟩] w fun e w' => e = .returned (.bool (decide ((Lra.ints S).head? = some 45))) ∧ w' = w := by
  by_cases h0 : 0 < S.size
  · have h1 : (1 : Int) ≤ S.size := by omega
    have h2 : ¬ (S.size : Int) < 1 := by omega
    have hq := head45 S h0
    rw [← toL] at hq
    generalize decide ((Lra.ints S).head? = some 45) = q at hq ⊢
    have Q := hid hq
    clear hq
    go_enter Tryd.func79, Tryd.ntmps79
    go_wp2
    go_ret
    exact ⟨by rw [Q.out]; rfl, rfl⟩
  · have hz : S.size = 0 := by omega
    have h2 : (S.size : Int) < 1 := by omega
    have hh : (Lra.ints S).head? = none := by
      have : Lra.ints S = [] := List.eq_nil_of_length_eq_zero (by rw [Lra.ints_len]; exact hz)
      rw [this]; rfl
    rw [hh]
    clear hh
    go_enter Tryd.func79, Tryd.ntmps79
    go_wp2
    go_ret
    exact ⟨by simp, rfl⟩

set_option maxHeartbeats 2000000 in
theorem cutPrefix75 (S : ByteArray) (w : World) : Calls Tryd.prog 75 #[.string S, .string ⟨#[45]⟩] w fun e w' => CutOut S e ∧ w' = w := by
  by_cases h : (Lra.ints S).head? = some 45
  · have h0 : 0 < S.size := by
      rw [← Lra.ints_len]
      cases hh : Lra.ints S with
      | nil => rw [hh] at h; cases h
      | cons a t => simp
    have H := hasPrefix79 S w
    rw [decide_eq_true h] at H
    have HC := hid H
    have HH := hid h
    clear H h
    have h1 : (1 : Int) ≤ S.size := by omega
    have h2 : ¬ (S.size : Int) < 1 := by omega
    go_enter Tryd.func75, Tryd.ntmps75
    go_wp2_with (go_at_call 79; refine HC.out.mono ?_; clear HC; rintro e W ⟨rfl, rfl⟩)
    go_ret2
    exact ⟨.inl ⟨HH.out, rfl⟩, rfl⟩
  · have H := hasPrefix79 S w
    rw [decide_eq_false h] at H
    have HC := hid H
    have HH := hid h
    clear H h
    go_enter Tryd.func75, Tryd.ntmps75
    go_wp2_with (go_at_call 79; refine HC.out.mono ?_; clear HC; rintro e W ⟨rfl, rfl⟩)
    go_ret2
    exact ⟨.inr ⟨HH.out, rfl⟩, rfl⟩

set_option maxHeartbeats 2000000 in
theorem cutPrefix65 (S : ByteArray) (w : World) : Calls Tryd.prog 65 #[.string S, .string ⟨#[45]⟩] w fun e w' => CutOut S e ∧ w' = w := by
  have HC := hid (cutPrefix75 S w)
  go_enter Tryd.func65, Tryd.ntmps65
  go_wp2_with (go_at_call 75; refine HC.out.mono ?_; clear HC; rintro e W ⟨(⟨h, rfl⟩ | ⟨h, rfl⟩), rfl⟩ <;> have HH := hid h <;> clear h)
  · go_ret2
    exact ⟨.inl ⟨HH.out, rfl⟩, rfl⟩
  · go_ret2
    exact ⟨.inr ⟨HH.out, rfl⟩, rfl⟩

def NumOut (r : Option Int) (e : Ending) : Prop := e = .returned (.tuple #[.int .i64 (r.getD 0), .bool r.isSome])

/-- What the digits T of the word S say. -/
def numW (S T : ByteArray) (neg : Bool) : Option Int := if T.size = 0 ∨ ((Lra.ints T).getD 0 0 = 48 ∧ ¬ S.toList = [48]) then none else Lra.numT (Lra.ints T) neg

set_option maxRecDepth 100000 in
set_option maxHeartbeats 8000000 in
theorem numWalk (S T : ByteArray) (neg : Bool) (w : World) (hS : (T.size : Int) ≤ 4611686018427387903)
    (C : Calls Tryd.prog 65 #[.string S, .string ⟨#[45]⟩] w fun e w' => e = .returned (.tuple #[.string T, .bool neg]) ∧ w' = w) :
    Calls Tryd.prog 63 #[.string S] w fun e w' => NumOut (numW S T neg) e ∧ w' = w := by
  have HC := hid C
  have HS := hid hS
  clear hS C
  by_cases hE : T.toList = []
  · have HR := hid (show numW S T neg = none by
      unfold numW
      rw [if_pos (Or.inl (by rw [toL] at hE; rw [← Lra.ints_len]; unfold Lra.ints; rw [hE]; rfl))])
    generalize numW S T neg = r at HR ⊢
    have hE' : T.toList.isEmpty = true := by rw [hE]; rfl
    clear hE
    go_enter Tryd.func63, Tryd.ntmps63
    go_wp2_with (go_at_call 65; refine HC.out.mono ?_; clear HC; rintro e W ⟨rfl, rfl⟩)
    go_ret2
    exact ⟨by rw [HR.out]; rfl, rfl⟩
  · have h0 : 0 < T.size := by
      rcases Nat.eq_zero_or_pos T.size with h | h
      · exfalso; apply hE; rw [toL]; exact List.eq_nil_of_length_eq_zero (by rw [Array.length_toList]; exact h)
      · exact h
    have h0' : (0 : Int) < T.size := by omega
    have hE' : T.toList.isEmpty = false := by
      cases h : T.toList with
      | nil => exact absurd h hE
      | cons a t => rfl
    clear hE
    have HG0 := hid (Lra.ints_getD T 0 h0)
    obtain ⟨y, hy⟩ : ∃ y : Int, (T[0].toNat : Int) = y := ⟨_, rfl⟩
    rw [hy] at HG0
    have HZ := hid h0
    by_cases h4 : y = 48
    case' pos =>
      have h4' : (y == 48) = true := by simpa using h4
      cases h5 : (S.toList == [48])
      case' true =>
        have HR := hid (show numW S T neg = Lra.numT (Lra.ints T) neg by
          unfold numW
          rw [if_neg (fun h => h.elim (fun h => by omega) (fun h => h.2 (by simpa using h5)))])
    case' neg =>
      have h4' : (y == 48) = false := by simpa using h4
      have HR := hid (show numW S T neg = Lra.numT (Lra.ints T) neg by
        unfold numW
        rw [if_neg (fun h => h.elim (fun h => by omega) (fun h => h4 (by rw [← HG0.out]; exact h.1)))])
    case pos.false =>
      have HR := hid (show numW S T neg = none by
        unfold numW
        rw [if_pos (Or.inr ⟨by rw [HG0.out]; exact h4, fun h => by rw [h] at h5; cases h5⟩)])
      generalize numW S T neg = r at HR ⊢
      clear h4
      go_enter Tryd.func63, Tryd.ntmps63
      go_wp2_with (go_at_call 65; refine HC.out.mono ?_; clear HC; rintro e W ⟨rfl, rfl⟩)
      go_ret2
      exact ⟨by rw [HR.out]; rfl, rfl⟩
    all_goals
      generalize numW S T neg = r at HR ⊢
      clear h4
      go_enter Tryd.func63, Tryd.ntmps63
      go_wp2_with (go_at_call 65; refine HC.out.mono ?_; clear HC; rintro e W ⟨rfl, rfl⟩)
      clear h4' hE' h0' hy h0
      try clear h5
      go_loop [6, 27] (fun n i => ∃ k m : Nat, k ≤ T.size ∧ i = .int .i64 k ∧ n = .int .i64 m ∧ m ≤ 4611686018427387903 ∧ Hid ((∀ x ∈ (Lra.ints T).take k, Lra.digit x = true) ∧ m = Lra.valGo 0 ((Lra.ints T).take k))) (fun _ i => T.size - (intOf i).toNat)
      case atStart => exact ⟨0, 0, Nat.zero_le _, rfl, rfl, by omega, hid ⟨(fun x hx => by simp at hx), by simp [Lra.valGo]⟩⟩
      case round =>
        obtain ⟨k, m, hk, rfl, rfl, hm, HI⟩ := hrel
        by_cases hlt : k < T.size
        · have hlt' : (k : Int) < T.size := by omega
          have HG := hid (Lra.ints_getD T k hlt)
          have HTk := hid (Lra.ints_take T k hlt)
          have hb1 : (0 : Int) ≤ (T[k].toNat : Int) := by omega
          have hb2 : (T[k].toNat : Int) < 256 := by have := T[k].toNat_lt; omega
          obtain ⟨x, hx⟩ : ∃ x : Int, (T[k].toNat : Int) = x := ⟨_, rfl⟩
          rw [hx] at HG HTk hb1 hb2
          have HBAD := hid (fun h => Lra.numT_bad (Lra.ints T) neg k (by rw [Lra.ints_len]; exact hlt) h)
          have HM := hid hm
          have HKs := hid (show (k : Int) + 1 ≤ 4611686018427387903 by have := HS.out; omega)
          obtain ⟨mi, hmi⟩ : ∃ mi : Int, (m : Int) = mi := ⟨_, rfl⟩
          have HMI := hid hmi
          rw [hmi]
          clear hmi hm
          by_cases hx1 : x < 48
          · have hx1' : x - 48 < 0 := by omega
            go_wp2
            go_ret2
            exact ⟨by rw [HR.out, HBAD.out (by rw [HG.out]; unfold Lra.digit; rw [decide_eq_false (by omega)]; rfl)]; rfl, rfl⟩
          by_cases hx2 : 57 < x
          · have hx1' : ¬ x - 48 < 0 := by omega
            have hx2' : 9 < x - 48 := by omega
            clear hx1
            go_wp2
            go_ret2
            exact ⟨by rw [HR.out, HBAD.out (by rw [HG.out]; unfold Lra.digit; rw [decide_eq_false (show ¬ x ≤ 57 by omega), Bool.and_false])]; rfl, rfl⟩
          have HX := hid (show 48 ≤ x ∧ x ≤ 57 by omega)
          have HV := hid (show Lra.valGo 0 ((Lra.ints T).take (k + 1)) = 10 * Lra.valGo 0 ((Lra.ints T).take k) + (x - 48).toNat by rw [HTk.out, Lra.valGo_snoc])
          have HDD := hid (show ∀ y ∈ (Lra.ints T).take (k + 1), Lra.digit y = true by
            rw [HTk.out]
            intro y hy
            rcases List.mem_append.1 hy with h | h
            · exact HI.out.1 y h
            · rw [List.mem_singleton] at h; rw [h]; unfold Lra.digit; rw [decide_eq_true (by omega), decide_eq_true (by omega)]; rfl)
          clear HBAD
          have hx1' : ¬ x - 48 < 0 := by omega
          have hx2' : ¬ 9 < x - 48 := by omega
          have hkw : wrap64 ((k : Int) + 1) = (k : Int) + 1 := by have := HKs.out; unfold wrap64; omega
          have hd1 : 0 ≤ x - 48 := by omega
          have hd2 : x - 48 ≤ 9 := by omega
          clear hx1 hx2 hk
          obtain ⟨d, hd⟩ : ∃ d : Int, x - 48 = d := ⟨_, rfl⟩
          rw [hd] at hx1' hx2' hd1 hd2
          have HDe := hid hd
          have HDb := hid (show 0 ≤ d ∧ d ≤ 9 from ⟨hd1, hd2⟩)
          have H1 := hid hlt
          iterate 50 go_step
          iterate 40 (first | go_values | go_skip | go_guarded | go_step)
          generalize hq : (4611686018427387903 - d) / 10 = q
          generalize 4611686018427387903 - d = g
          have HQ := hid hq
          clear hq
          by_cases hbig : q < mi
          · clear hd1 hd2
            go_wp2
            go_ret2
            exact ⟨by rw [HR.out, Lra.numT_big (Lra.ints T) neg (k + 1) (by rw [HV.out, ← HI.out.2, HDe.out]; have h1 := HMI.out; have h2 := HQ.out; have h3 := HDb.out; omega)]; rfl, rfl⟩
          · have HB := hid hbig
            have hm1 : 0 ≤ mi := by have := HMI.out; omega
            have hm2 : mi ≤ 461168601842738790 := by have := HQ.out; omega
            go_wp2
            rw [hkw]
            refine ⟨⟨k + 1, 10 * m + d.toNat, by omega, by push_cast; rfl, ?_, ?_, hid ⟨HDD.out, ?_⟩⟩, ?_⟩
            · rw [← HMI.out]; congr 1; push_cast; omega
            · have h1 := HMI.out; have h2 := HQ.out; omega
            · rw [HV.out, ← HI.out.2, HDe.out]
            · show T.size - ((k : Int) + 1).toNat < T.size - (k : Int).toNat
              omega
        · have hlt' : ¬ (k : Int) < T.size := by omega
          obtain rfl : k = T.size := by omega
          have HF := hid (Lra.numT_fit (Lra.ints T) neg (by have := HI.out.1; rwa [List.take_of_length_le (by rw [Lra.ints_len]; exact Nat.le_refl _)] at this) (by have := HI.out.2; rw [List.take_of_length_le (by rw [Lra.ints_len]; exact Nat.le_refl _)] at this; omega))
          have HE := hid (show m = Lra.valGo 0 (Lra.ints T) by have := HI.out.2; rwa [List.take_of_length_le (by rw [Lra.ints_len]; exact Nat.le_refl _)] at this)
          have HM := hid hm
          obtain ⟨mi, hmi⟩ : ∃ mi : Int, (m : Int) = mi := ⟨_, rfl⟩
          have HMI := hid hmi
          rw [hmi]
          have hmw : wrap64 (-mi) = -mi := by unfold wrap64; omega
          clear hmi hm hk hlt hlt'
          cases neg
          · go_wp2
            go_ret2
            exact ⟨by rw [HR.out, HF.out, ← HE.out, HMI.out]; rfl, rfl⟩
          · go_wp2
            go_ret2
            exact ⟨by rw [HR.out, HF.out, ← HE.out, HMI.out]; rfl, rfl⟩

theorem numW_tail (S : ByteArray) (h : (Lra.ints S).head? = some 45) : numW S (S.extract 1 S.size) true = Lra.numL (Lra.ints S) := by
  have h0 : 0 < S.size := by
    rw [← Lra.ints_len]
    cases hh : Lra.ints S with
    | nil => rw [hh] at h; cases h
    | cons a t => simp
  have hne : ¬ S.toList = [48] := by
    intro h2
    rw [toL] at h2
    unfold Lra.ints at h
    rw [h2] at h
    simp at h
  unfold numW Lra.numL
  rw [if_pos h, Lra.ints_tail S h0, ← Lra.ints_len]
  generalize Lra.ints (S.extract 1 S.size) = d
  unfold Lra.numD
  simp only [hne, not_false_eq_true, and_true, Bool.true_or, Bool.and_true, Bool.or_eq_true, beq_iff_eq]
theorem numW_same (S : ByteArray) (h : ¬ (Lra.ints S).head? = some 45) : numW S S false = Lra.numL (Lra.ints S) := by
  have hiff : (S.toList = [48]) ↔ (Lra.ints S = [48]) := by
    rw [toL]
    unfold Lra.ints
    constructor
    · intro h; rw [h]; rfl
    · intro h
      have h5 : S.data.toList.map (fun b => b.toNat) = [48] := by
        have := congrArg (List.map Int.toNat) h
        simpa [List.map_map, Function.comp_def] using this
      have h6 := congrArg (List.map UInt8.ofNat) h5
      simpa [List.map_map, Function.comp_def] using h6
  unfold numW Lra.numL
  rw [if_neg h, ← Lra.ints_len]
  simp only [hiff]
  generalize Lra.ints S = d
  unfold Lra.numD
  simp only [Bool.false_or, Bool.or_eq_true, Bool.and_eq_true, beq_iff_eq, bne_iff_ne, ne_eq]

theorem number63 (S : ByteArray) (w : World) (hS : (S.size : Int) ≤ 4611686018427387903) :
    Calls Tryd.prog 63 #[.string S] w fun e w' => NumOut (Lra.numL (Lra.ints S)) e ∧ w' = w := by
  have C := cutPrefix65 S w
  by_cases h : (Lra.ints S).head? = some 45
  · rw [← numW_tail S h]
    refine numWalk S _ true w (by rw [ByteArray.size_extract]; omega) (C.mono ?_)
    rintro e w' ⟨(⟨_, rfl⟩ | ⟨h2, _⟩), rfl⟩
    · exact ⟨rfl, rfl⟩
    · exact absurd h h2
  · rw [← numW_same S h]
    refine numWalk S S false w hS (C.mono ?_)
    rintro e w' ⟨(⟨h2, _⟩ | ⟨_, rfl⟩), rfl⟩
    · exact absurd h2 h
    · exact ⟨rfl, rfl⟩
end Go.Proofs.YtdodfmgbjfhnpaaDoor
