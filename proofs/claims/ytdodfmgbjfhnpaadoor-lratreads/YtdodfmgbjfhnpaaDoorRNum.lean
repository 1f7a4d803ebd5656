/- A word's number, by the document. -/
import Derived.Test.YtdodfmgbjfhnpaaDoorWord
namespace Lra
set_option linter.unusedVariables false
theorem val_pow (d : List Int) (h : ∀ x ∈ d, digit x = true) : valGo 0 d < 10 ^ d.length := by
  have : ∀ (d : List Int) (n k : Nat), (∀ x ∈ d, digit x = true) → n < 10 ^ k → valGo n d < 10 ^ (k + d.length) := by
    intro d
    induction d with
    | nil => intro n k _ h; simpa [valGo] using h
    | cons c cs ih =>
      intro n k hd hn
      rw [valGo]
      have hc := hd c (by simp)
      unfold digit at hc
      simp at hc
      have hk : 10 ^ (k + 1) = 10 * 10 ^ k := by rw [Nat.pow_succ]; omega
      have := ih (10 * n + (c - 48).toNat) (k + 1) (fun x hx => hd x (by simp [hx])) (by rw [hk]; omega)
      rw [List.length_cons, show k + (cs.length + 1) = k + 1 + cs.length by omega]
      exact this
  simpa using this d 0 0 h (by decide)
theorem val_low (d : List Int) (c : Int) (hc : 49 ≤ c) (h : ∀ x ∈ d, digit x = true) : 10 ^ d.length ≤ valGo 0 (c :: d) := by
  have : ∀ (d : List Int) (n : Nat), 1 ≤ n → n * 10 ^ d.length ≤ valGo n d := by
    intro d
    induction d with
    | nil => intro n _; simp [valGo]
    | cons c cs ih =>
      intro n hn
      rw [valGo, List.length_cons, Nat.pow_succ]
      have := ih (10 * n + (c - 48).toNat) (by omega)
      refine Nat.le_trans ?_ this
      rw [show n * (10 ^ cs.length * 10) = (10 * n) * 10 ^ cs.length by rw [Nat.mul_comm (10 ^ cs.length) 10, ← Nat.mul_assoc, Nat.mul_comm n 10]]
      exact Nat.mul_le_mul_right _ (by omega)
  rw [valGo]
  have h1 := this d (10 * 0 + (c - 48).toNat) (by omega)
  refine Nat.le_trans ?_ h1
  conv => lhs; rw [← Nat.one_mul (10 ^ d.length)]
  exact Nat.mul_le_mul_right _ (by omega)
/-- A row of more than nineteen digits says nothing. -/
theorem numD_long (d : List Int) (neg : Bool) (h : 19 < d.length) : numD d neg = none := by
  unfold numD
  split
  · rfl
  · next hc =>
    unfold numT
    rw [if_pos]
    cases ha : d.all digit
    · rfl
    · simp only [Bool.not_true, Bool.false_or, decide_eq_true_eq]
      cases d with
      | nil => simp at h
      | cons c cs =>
        simp at hc
        have hall := List.all_eq_true.1 ha
        have hcd := hall c (by simp)
        unfold digit at hcd
        simp at hcd
        have hc48 : c ≠ 48 := fun e => by
          have := (hc e).2.2
          rw [this] at h; simp at h
        have := val_low cs c (by omega) (fun x hx => hall x (by simp [hx]))
        have hp : 10 ^ 19 ≤ 10 ^ cs.length := Nat.pow_le_pow_right (by decide) (by simp at h; omega)
        omega
end Lra
namespace Go.Proofs.YtdodfmgbjfhnpaaDoor
open Go.RowKit
set_option linter.unusedVariables false
set_option linter.unusedSimpArgs false

/-- What the digits T say, by the tests that the document makes. -/
theorem numD_tests (T : ByteArray) (neg : Bool) (h0 : 0 < T.size) : (Lra.numD (Lra.ints T) neg = none ∧ (19 < T.size ∨ (T.size ≤ 19 ∧ (T[0].toNat : Int) = 48 ∧ (1 < T.size ∨ neg = true)))) ∨ (Lra.numD (Lra.ints T) neg = Lra.numT (Lra.ints T) neg ∧ T.size ≤ 19 ∧ (¬ (T[0].toNat : Int) = 48 ∨ (¬ 1 < T.size ∧ neg = false))) := by
  have hg := Lra.ints_getD T 0 h0
  have hl := Lra.ints_len T
  by_cases h19 : 19 < T.size
  · exact .inl ⟨Lra.numD_long _ _ (by rw [hl]; exact h19), .inl h19⟩
  · by_cases h48 : (T[0].toNat : Int) = 48
    · by_cases hb : 1 < T.size ∨ neg = true
      · left
        refine ⟨?_, .inr ⟨by omega, h48, hb⟩⟩
        unfold Lra.numD
        rw [if_pos]
        rw [hg, h48]
        rcases hb with hb | hb
        · have : (Lra.ints T != [48]) = true := by
            rw [bne_iff_ne]
            intro e
            rw [e] at hl
            simp at hl
            omega
          simp [this]
        · simp [hb]
      · right
        have hn : neg = false := by cases neg with
          | false => rfl
          | true => exact absurd (.inr rfl) hb
        have h1 : T.size = 1 := by
          have : ¬ 1 < T.size := fun h => hb (.inl h)
          omega
        refine ⟨?_, by omega, .inr ⟨by omega, hn⟩⟩
        unfold Lra.numD
        rw [if_neg]
        have e : Lra.ints T = [48] := by
          have hl1 : (Lra.ints T).length = 1 := by rw [hl, h1]
          match hh : Lra.ints T, hl1 with
          | [c], _ =>
            rw [hh] at hg
            simp [List.getD] at hg
            rw [hg, h48]
        rw [e, hn]
        decide
    · right
      refine ⟨?_, by omega, .inl h48⟩
      unfold Lra.numD
      rw [if_neg]
      rw [hg]
      have hlen : (Lra.ints T).length ≠ 0 := by rw [hl]; omega
      simp [h48]
      intro e; rw [e] at hlen; exact hlen rfl

theorem u64_small (u : Int) (h0 : 0 ≤ u) (h1 : u < 18446744073709551616) : IntKind.u64.wrap u = u := by
  simp [IntKind.wrap, IntKind.bits, IntKind.signed]
  omega
theorem u8_small (u : Int) (h0 : 0 ≤ u) (h1 : u < 256) : IntKind.u8.wrap u = u := by
  simp [IntKind.wrap, IntKind.bits, IntKind.signed]
  omega

set_option maxRecDepth 100000 in
set_option maxHeartbeats 2000000 in
theorem number55_nil (w : World) : Calls Tryd.prog 55 #[.string ⟨#[]⟩] w fun e w' => NumOut (Lra.numL (Lra.ints ⟨#[]⟩)) e ∧ w' = w := by
  go_enter Tryd.func55, Tryd.ntmps55
  go_wp2
  go_ret2
  exact ⟨rfl, rfl⟩

set_option maxRecDepth 100000 in
set_option maxHeartbeats 8000000 in
theorem rnum_walk (S T : ByteArray) (neg : Bool) (w : World) (hS : S.size ≤ 1000000) (hS0 : 0 < S.size) (hc : (neg = true ∧ (S[0].toNat : Int) = 45 ∧ S.extract 1 S.size = T) ∨ (neg = false ∧ ¬ (S[0].toNat : Int) = 45 ∧ T = S)) :
    Calls Tryd.prog 55 #[.string S] w fun e w' => NumOut (Lra.numD (Lra.ints T) neg) e ∧ w' = w := by
  have hS0' : (0 : Int) < S.size := by omega
  have h1S : (1 : Int) ≤ S.size := by omega
  have hTz : T.size ≤ 1000000 := by
    rcases hc with ⟨_, _, h⟩ | ⟨_, _, h⟩
    · rw [← h, ByteArray.size_extract]; omega
    · rw [h]; exact hS
  by_cases hE : T.size = 0
  · have hE' : T.toList.isEmpty = true := by
      have : T.toList = [] := by rw [toL]; exact List.eq_nil_of_length_eq_zero (by rw [Array.length_toList]; exact hE)
      rw [this]; rfl
    have HR := hid (show Lra.numD (Lra.ints T) neg = none by
      have : Lra.ints T = [] := List.eq_nil_of_length_eq_zero (by rw [Lra.ints_len]; exact hE)
      rw [this]; rfl)
    rcases hc with ⟨rfl, h45, hT⟩ | ⟨_, _, h⟩
    · clear hS hE
      go_enter Tryd.func55, Tryd.ntmps55
      go_wp2
      go_ret2
      exact ⟨by rw [HR.out]; rfl, rfl⟩
    · rw [h] at hE; omega
  · have hT0 : 0 < T.size := by omega
    have hE' : T.toList.isEmpty = false := by
      cases h : T.toList with
      | nil => rw [toL] at h; exact absurd (by rw [← Array.length_toList, h]; rfl : T.data.size = 0) hE
      | cons a t => rfl
    have hT0' : (0 : Int) < T.size := by omega
    rcases numD_tests T neg hT0 with ⟨hr, hbad⟩ | ⟨hr, h19, hgood⟩
    · have HR := hid hr
      clear hr
      rcases hc with ⟨rfl, h45, hT⟩ | ⟨rfl, h45, rfl⟩
      · rcases hbad with hb | ⟨hb1, hb2, hb3⟩
        · have hb' : (19 : Int) < T.size := by omega
          clear hS hE hb
          go_enter Tryd.func55, Tryd.ntmps55
          go_wp2
          go_ret2
          exact ⟨by rw [HR.out]; rfl, rfl⟩
        · have hb' : ¬ (19 : Int) < T.size := by omega
          clear hS hE hb1
          by_cases h1 : 1 < T.size
          · have h1' : (1 : Int) < T.size := by omega
            go_enter Tryd.func55, Tryd.ntmps55
            go_wp2
            go_ret2
            exact ⟨by rw [HR.out]; rfl, rfl⟩
          · have h1' : ¬ (1 : Int) < T.size := by omega
            go_enter Tryd.func55, Tryd.ntmps55
            go_wp2
            go_ret2
            exact ⟨by rw [HR.out]; rfl, rfl⟩
      · have h45' : ((T[0].toNat : Int) == 45) = false := by simpa using h45
        rcases hbad with hb | ⟨hb1, hb2, hb3⟩
        · have hb' : (19 : Int) < T.size := by omega
          clear hS hE hb
          go_enter Tryd.func55, Tryd.ntmps55
          go_wp2
          go_ret2
          exact ⟨by rw [HR.out]; rfl, rfl⟩
        · have hb' : ¬ (19 : Int) < T.size := by omega
          have h1 : 1 < T.size := by rcases hb3 with h | h; exact h; cases h
          have h1' : (1 : Int) < T.size := by omega
          clear hS hE hb1
          go_enter Tryd.func55, Tryd.ntmps55
          go_wp2
          go_ret2
          exact ⟨by rw [HR.out]; rfl, rfl⟩
    · have hb' : ¬ (19 : Int) < T.size := by omega
      rw [hr]
      have H19 := hid h19
      obtain ⟨r, hrr⟩ : ∃ r, Lra.numT (Lra.ints T) neg = r := ⟨_, rfl⟩
      have HR := hid hrr
      rw [hrr]
      clear hr hrr h19
      have h48 : (((T[0].toNat : Int) == 48) = false) ∨ (((T[0].toNat : Int) == 48) = true ∧ ¬ (1 : Int) < T.size ∧ neg = false) := by
        by_cases h : (T[0].toNat : Int) = 48
        · right
          rcases hgood with hg | ⟨hg1, hg2⟩
          · exact absurd h hg
          · exact ⟨by rw [h]; rfl, by omega, hg2⟩
        · left; simpa using h
      clear hgood
      rcases hc with ⟨rfl, h45, hT⟩ | ⟨rfl, h45, rfl⟩
      · have h48' : ((T[0].toNat : Int) == 48) = false := by
          rcases h48 with h | ⟨_, _, h⟩
          · exact h
          · cases h
        clear hS hE h48
        go_enter Tryd.func55, Tryd.ntmps55
        go_wp2
        clear h48' h45 hT hE' hb' h1S hS0'
        go_loop [6, 7] (fun nv iv => ∃ k m : Nat, k ≤ T.size ∧ iv = .int .i64 k ∧ nv = .int .u64 m ∧ m < 10000000000000000000 ∧ Hid ((∀ x ∈ (Lra.ints T).take k, Lra.digit x = true) ∧ m = Lra.valGo 0 ((Lra.ints T).take k))) (fun _ iv => T.size - (intOf iv).toNat)
        case atStart => exact ⟨0, 0, Nat.zero_le _, rfl, rfl, by omega, hid ⟨(fun x hx => by simp at hx), by simp [Lra.valGo]⟩⟩
        case round =>
          obtain ⟨k, m, hk, rfl, rfl, hm, HI⟩ := hrel
          by_cases hlt : k < T.size
          · have hlt' : (k : Int) < T.size := by omega
            have HG := hid (Lra.ints_getD T k hlt)
            have HTk := hid (Lra.ints_take T k hlt)
            have hb1 : (0 : Int) ≤ (T[k].toNat : Int) := by omega
            have hb2 : (T[k].toNat : Int) < 256 := by have := T[k].toNat_lt; omega
            obtain ⟨x, hx⟩ : ∃ x : Int, (T[k].toNat : Int) = x := ⟨_, rfl⟩
            rw [hx] at HG HTk hb1 hb2
            have hpw := Lra.val_pow ((Lra.ints T).take k) HI.out.1
            rw [← HI.out.2, List.length_take, Lra.ints_len, Nat.min_eq_left hk] at hpw
            have hp18 : 10 ^ k ≤ 10 ^ 18 := Nat.pow_le_pow_right (by decide) (by have := H19.out; omega)
            have hm18 : m < 1000000000000000000 := by omega
            obtain ⟨mi, hmi⟩ : ∃ mi : Int, (m : Int) = mi := ⟨_, rfl⟩
            have HMI := hid hmi
            rw [hmi]
            have hmb : 0 ≤ mi ∧ mi < 1000000000000000000 := by omega
            obtain ⟨hm0, hm1⟩ := hmb
            have HBAD := hid (fun h => Lra.numT_bad (Lra.ints T) true k (by rw [Lra.ints_len]; exact hlt) h)
            clear hmi hm hpw hp18 hm18
            by_cases hx1 : x < 48
            · clear hm0 hm1
              go_wp2
              go_ret2
              exact ⟨by rw [← HR.out, HBAD.out (by rw [HG.out]; unfold Lra.digit; rw [decide_eq_false (by omega)]; rfl)]; rfl, rfl⟩
            by_cases hx2 : 57 < x
            · clear hm0 hm1
              go_wp2
              go_ret2
              exact ⟨by rw [← HR.out, HBAD.out (by rw [HG.out]; unfold Lra.digit; rw [decide_eq_false (show ¬ x ≤ 57 by omega), Bool.and_false])]; rfl, rfl⟩
            have e1 : IntKind.u64.wrap (mi * 10) = mi * 10 := u64_small _ (by omega) (by omega)
            have e2 : IntKind.u8.wrap (x - 48) = x - 48 := u8_small _ (by omega) (by omega)
            have e3 : IntKind.u64.wrap (x - 48) = x - 48 := u64_small _ (by omega) (by omega)
            have e4 : IntKind.u64.wrap (mi * 10 + (x - 48)) = mi * 10 + (x - 48) := u64_small _ (by omega) (by omega)
            have HDD := hid (show ∀ y ∈ (Lra.ints T).take (k + 1), Lra.digit y = true by
              rw [HTk.out]
              intro y hy
              rcases List.mem_append.1 hy with h | h
              · exact HI.out.1 y h
              · rw [List.mem_singleton] at h; rw [h]; unfold Lra.digit; rw [decide_eq_true (by omega), decide_eq_true (by omega)]; rfl)
            have HV := hid (show Lra.valGo 0 ((Lra.ints T).take (k + 1)) = 10 * Lra.valGo 0 ((Lra.ints T).take k) + (x - 48).toNat by rw [HTk.out, Lra.valGo_snoc])
            have HX := hid (show 48 ≤ x ∧ x ≤ 57 by omega)
            clear HBAD
            go_wp2
            refine ⟨⟨k + 1, 10 * m + (x - 48).toNat, by omega, by go_num, ?_, ?_, hid ⟨HDD.out, by rw [HV.out, ← HI.out.2]⟩⟩, by simp [intOf]; omega⟩
            · congr 1
              have h1 := HMI.out
              have h2 := HX.out
              push_cast
              omega
            · have h1 := HMI.out
              have h2 := HX.out
              omega
          · have hlt' : ¬ (k : Int) < T.size := by omega
            obtain rfl : k = T.size := by omega
            have hfull : (Lra.ints T).take T.size = Lra.ints T := List.take_of_length_le (by rw [Lra.ints_len]; exact Nat.le_refl _)
            have HA := hid (show ∀ x ∈ Lra.ints T, Lra.digit x = true by have := HI.out.1; rwa [hfull] at this)
            have HV := hid (show m = Lra.valGo 0 (Lra.ints T) by have := HI.out.2; rwa [hfull] at this)
            by_cases hbig : 4611686018427387903 < m
            · have HN := hid (show r = none by
                rw [← HR.out]
                have := Lra.numT_big (Lra.ints T) true T.size (by rw [hfull, ← HV.out]; exact hbig)
                exact this)
              have hbig' : (4611686018427387903 : Int) < (m : Int) := by omega
              clear hm hfull
              obtain ⟨mi, hmi⟩ : ∃ mi : Int, (m : Int) = mi := ⟨_, rfl⟩
              rw [hmi] at hbig' ⊢
              clear hmi hbig hk hlt hlt'
              go_wp2
              go_ret2
              exact ⟨by rw [HN.out]; rfl, rfl⟩
            · have HN := hid (show r = some (if true = true then -(m : Int) else m) by
                rw [← HR.out, Lra.numT_fit (Lra.ints T) true HA.out (by rw [← HV.out]; omega), ← HV.out])
              have hm2 : (m : Int) ≤ 4611686018427387903 := by omega
              have hm3 : (0 : Int) ≤ (m : Int) := by omega
              clear hm hfull
              obtain ⟨mi, hmi⟩ : ∃ mi : Int, (m : Int) = mi := ⟨_, rfl⟩
              rw [hmi] at hm2 hm3 HN ⊢
              have hbig' : ¬ (4611686018427387903 : Int) < mi := by omega
              have hw1 : wrap64 mi = mi := by unfold wrap64; omega
              have hw2 : wrap64 (0 - mi) = -mi := by unfold wrap64; omega
              have hw3 : wrap64 (-mi) = -mi := by unfold wrap64; omega
              clear hmi hbig hk hlt hlt' hm2 hm3
              go_wp2
              go_ret2
              exact ⟨by rw [HN.out]; rfl, rfl⟩
      · have h45' : ((T[0].toNat : Int) == 45) = false := by simpa using h45
        rcases h48 with h48' | ⟨h48', h1', _⟩
        all_goals
          clear hS hE
          go_enter Tryd.func55, Tryd.ntmps55
          go_wp2
          clear h45' hE' hb' h1S hS0' h45 h48'
          try clear h1'
          go_loop [6, 7] (fun nv iv => ∃ k m : Nat, k ≤ T.size ∧ iv = .int .i64 k ∧ nv = .int .u64 m ∧ m < 10000000000000000000 ∧ Hid ((∀ x ∈ (Lra.ints T).take k, Lra.digit x = true) ∧ m = Lra.valGo 0 ((Lra.ints T).take k))) (fun _ iv => T.size - (intOf iv).toNat)
          case atStart => exact ⟨0, 0, Nat.zero_le _, rfl, rfl, by omega, hid ⟨(fun x hx => by simp at hx), by simp [Lra.valGo]⟩⟩
          case round =>
            obtain ⟨k, m, hk, rfl, rfl, hm, HI⟩ := hrel
            by_cases hlt : k < T.size
            · have hlt' : (k : Int) < T.size := by omega
              have HG := hid (Lra.ints_getD T k hlt)
              have HTk := hid (Lra.ints_take T k hlt)
              have hb1 : (0 : Int) ≤ (T[k].toNat : Int) := by omega
              have hb2 : (T[k].toNat : Int) < 256 := by have := T[k].toNat_lt; omega
              obtain ⟨x, hx⟩ : ∃ x : Int, (T[k].toNat : Int) = x := ⟨_, rfl⟩
              rw [hx] at HG HTk hb1 hb2
              have hpw := Lra.val_pow ((Lra.ints T).take k) HI.out.1
              rw [← HI.out.2, List.length_take, Lra.ints_len, Nat.min_eq_left hk] at hpw
              have hp18 : 10 ^ k ≤ 10 ^ 18 := Nat.pow_le_pow_right (by decide) (by have := H19.out; omega)
              have hm18 : m < 1000000000000000000 := by omega
              obtain ⟨mi, hmi⟩ : ∃ mi : Int, (m : Int) = mi := ⟨_, rfl⟩
              have HMI := hid hmi
              rw [hmi]
              have hmb : 0 ≤ mi ∧ mi < 1000000000000000000 := by omega
              obtain ⟨hm0, hm1⟩ := hmb
              have HBAD := hid (fun h => Lra.numT_bad (Lra.ints T) false k (by rw [Lra.ints_len]; exact hlt) h)
              clear hmi hm hpw hp18 hm18
              by_cases hx1 : x < 48
              · clear hm0 hm1
                go_wp2
                go_ret2
                exact ⟨by rw [← HR.out, HBAD.out (by rw [HG.out]; unfold Lra.digit; rw [decide_eq_false (by omega)]; rfl)]; rfl, rfl⟩
              by_cases hx2 : 57 < x
              · clear hm0 hm1
                go_wp2
                go_ret2
                exact ⟨by rw [← HR.out, HBAD.out (by rw [HG.out]; unfold Lra.digit; rw [decide_eq_false (show ¬ x ≤ 57 by omega), Bool.and_false])]; rfl, rfl⟩
              have e1 : IntKind.u64.wrap (mi * 10) = mi * 10 := u64_small _ (by omega) (by omega)
              have e2 : IntKind.u8.wrap (x - 48) = x - 48 := u8_small _ (by omega) (by omega)
              have e3 : IntKind.u64.wrap (x - 48) = x - 48 := u64_small _ (by omega) (by omega)
              have e4 : IntKind.u64.wrap (mi * 10 + (x - 48)) = mi * 10 + (x - 48) := u64_small _ (by omega) (by omega)
              have HDD := hid (show ∀ y ∈ (Lra.ints T).take (k + 1), Lra.digit y = true by
                rw [HTk.out]
                intro y hy
                rcases List.mem_append.1 hy with h | h
                · exact HI.out.1 y h
                · rw [List.mem_singleton] at h; rw [h]; unfold Lra.digit; rw [decide_eq_true (by omega), decide_eq_true (by omega)]; rfl)
              have HV := hid (show Lra.valGo 0 ((Lra.ints T).take (k + 1)) = 10 * Lra.valGo 0 ((Lra.ints T).take k) + (x - 48).toNat by rw [HTk.out, Lra.valGo_snoc])
              have HX := hid (show 48 ≤ x ∧ x ≤ 57 by omega)
              clear HBAD
              go_wp2
              refine ⟨⟨k + 1, 10 * m + (x - 48).toNat, by omega, by go_num, ?_, ?_, hid ⟨HDD.out, by rw [HV.out, ← HI.out.2]⟩⟩, by simp [intOf]; omega⟩
              · congr 1
                have h1 := HMI.out
                have h2 := HX.out
                push_cast
                omega
              · have h1 := HMI.out
                have h2 := HX.out
                omega
            · have hlt' : ¬ (k : Int) < T.size := by omega
              obtain rfl : k = T.size := by omega
              have hfull : (Lra.ints T).take T.size = Lra.ints T := List.take_of_length_le (by rw [Lra.ints_len]; exact Nat.le_refl _)
              have HA := hid (show ∀ x ∈ Lra.ints T, Lra.digit x = true by have := HI.out.1; rwa [hfull] at this)
              have HV := hid (show m = Lra.valGo 0 (Lra.ints T) by have := HI.out.2; rwa [hfull] at this)
              by_cases hbig : 4611686018427387903 < m
              · have HN := hid (show r = none by
                  rw [← HR.out]
                  have := Lra.numT_big (Lra.ints T) false T.size (by rw [hfull, ← HV.out]; exact hbig)
                  exact this)
                have hbig' : (4611686018427387903 : Int) < (m : Int) := by omega
                clear hm hfull
                obtain ⟨mi, hmi⟩ : ∃ mi : Int, (m : Int) = mi := ⟨_, rfl⟩
                rw [hmi] at hbig' ⊢
                clear hmi hbig hk hlt hlt'
                go_wp2
                go_ret2
                exact ⟨by rw [HN.out]; rfl, rfl⟩
              · have HN := hid (show r = some (if false = true then -(m : Int) else m) by
                  rw [← HR.out, Lra.numT_fit (Lra.ints T) false HA.out (by rw [← HV.out]; omega), ← HV.out])
                have hm2 : (m : Int) ≤ 4611686018427387903 := by omega
                have hm3 : (0 : Int) ≤ (m : Int) := by omega
                clear hm hfull
                obtain ⟨mi, hmi⟩ : ∃ mi : Int, (m : Int) = mi := ⟨_, rfl⟩
                rw [hmi] at hm2 hm3 HN ⊢
                have hbig' : ¬ (4611686018427387903 : Int) < mi := by omega
                have hw1 : wrap64 mi = mi := by unfold wrap64; omega
                have hw2 : wrap64 (0 - mi) = -mi := by unfold wrap64; omega
                have hw3 : wrap64 (-mi) = -mi := by unfold wrap64; omega
                clear hmi hbig hk hlt hlt' hm2 hm3
                go_wp2
                go_ret2
                exact ⟨by rw [HN.out]; rfl, rfl⟩

theorem number55 (S : ByteArray) (w : World) (hS : S.size ≤ 1000000) : Calls Tryd.prog 55 #[.string S] w fun e w' => NumOut (Lra.numL (Lra.ints S)) e ∧ w' = w := by
  by_cases hz : S.size = 0
  · have hs : S = ⟨#[]⟩ := by
      obtain ⟨⟨l⟩⟩ := S
      have : l = [] := List.eq_nil_of_length_eq_zero hz
      rw [this]
    subst hs
    exact number55_nil w
  · have hS0 : 0 < S.size := by omega
    have hhead : (Lra.ints S).head? = some (S[0].toNat : Int) := by
      have := Lra.ints_get S 0 hS0
      rw [List.head?_eq_getElem?, List.getElem?_eq_getElem (by rw [Lra.ints_len]; exact hS0), this]
    by_cases h45 : (S[0].toNat : Int) = 45
    · have hnl : Lra.numL (Lra.ints S) = Lra.numD (Lra.ints (S.extract 1 S.size)) true := by
        unfold Lra.numL
        rw [if_pos (by rw [hhead, h45]), Lra.ints_tail S hS0]
      rw [hnl]
      exact rnum_walk S _ true w hS hS0 (.inl ⟨rfl, h45, rfl⟩)
    · have hnl : Lra.numL (Lra.ints S) = Lra.numD (Lra.ints S) false := by
        unfold Lra.numL
        rw [if_neg (by rw [hhead]; intro e; exact h45 (Option.some.inj e))]
      rw [hnl]
      exact rnum_walk S S false w hS hS0 (.inr ⟨rfl, h45, rfl⟩)
end Go.Proofs.YtdodfmgbjfhnpaaDoor
