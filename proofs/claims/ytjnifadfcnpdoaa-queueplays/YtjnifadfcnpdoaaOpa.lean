/- A row of calls that was handed in. -/
import Derived.Test.YtjnifadfcnpdoaaWrk
namespace Go.Proofs.Ytjnifadfcnpdoaa
open Go.RowKit Go.Maps
set_option linter.unusedVariables false
set_option maxRecDepth 100000

structure Opr where
  kind : Int
  l : List Int
  set : List Bool
def oval (s : Opr) (a b : Option Addr) (ca cb : Nat) : List Value := [.int .u8 s.kind, .slice a s.l.length ca, .slice b s.set.length cb]
structure OpOk (W : World) (s : Opr) (a b : Option Addr) : Prop where
  kind : 0 ≤ s.kind ∧ s.kind ≤ 255
  l : Iw W a s.l
  set : Bw W b s.set
theorem OpOk.below {W W' : World} {s : Opr} {a b : Option Addr} (h : OpOk W s a b) (hb : Below W.heap.size W W') : OpOk W' s a b := ⟨h.kind, h.l.all hb, h.set.all hb⟩
def Ops (W : World) (a : Option Addr) (ss : List Opr) : Prop :=
  ss = [] ∨ ∃ b off, a = some ⟨b, off, none⟩ ∧ b < W.heap.size ∧ ∀ j (hj : j < ss.length), ∃ a' b' ca cb, OpOk W ss[j] a' b' ∧ ∀ t v, (oval ss[j] a' b' ca cb)[t]? = some v → W.cell? ⟨b, off + j * 3 + t, none⟩ = some v
theorem Ops.below {W W' : World} {a : Option Addr} {ss : List Opr} (h : Ops W a ss) (hb : Below W.heap.size W W') : Ops W' a ss := by
  rcases h with h | ⟨b, off, e, hl, hc⟩
  · exact .inl h
  · refine .inr ⟨b, off, e, Nat.lt_of_lt_of_le hl hb.size, fun j hj => ?_⟩
    obtain ⟨a', b', ca, cb, h1, h2⟩ := hc j hj
    exact ⟨a', b', ca, cb, h1.below hb, fun t v hv => (hb.cell (p := ⟨b, off + j * 3 + t, none⟩) hl).trans (h2 t v hv)⟩
theorem Ops.shape {w : World} {a : Option Addr} {ss : List Opr} (h : Ops w a ss) : ss.length = 0 ∨ ∃ b off, a = some ⟨b, off, none⟩ := by
  rcases h with h' | ⟨b, off, e, _⟩
  · left; rw [h']; rfl
  · exact .inr ⟨b, off, e⟩
theorem Ops.at {W : World} {b off : Nat} {ss : List Opr} (h : Ops W (some ⟨b, off, none⟩) ss) {j : Nat} (hj : j < ss.length) :
    ∃ a' b' ca cb, OpOk W ss[j] a' b' ∧ W.cell? ⟨b, off + j * 3, none⟩ = some (.int .u8 ss[j].kind) ∧ W.cell? ⟨b, off + j * 3 + 1, none⟩ = some (.slice a' ss[j].l.length ca) ∧ W.cell? ⟨b, off + j * 3 + 2, none⟩ = some (.slice b' ss[j].set.length cb) := by
  rcases h with h | ⟨b', off', e, hl, hc⟩
  · rw [h] at hj; simp at hj
  · cases e
    obtain ⟨a', b', ca, cb, h1, h2⟩ := hc j hj
    exact ⟨a', b', ca, cb, h1, h2 0 _ rfl, h2 1 _ rfl, h2 2 _ rfl⟩
/-- How many numbers calls have, each counted no further than 5000. -/
def cnt (ss : List Opr) : Nat := (ss.map (fun s => min s.l.length 5000 + min s.set.length 5000)).sum
theorem cnt_snoc {ss : List Opr} {k : Nat} (hk : k < ss.length) : cnt (ss.take (k + 1)) = cnt (ss.take k) + (min ss[k].l.length 5000 + min ss[k].set.length 5000) := by
  unfold cnt
  rw [List.take_succ_eq_append_getElem hk, List.map_append, List.sum_append]
  simp only [List.map_cons, List.map_nil, List.sum_cons, List.sum_nil]
  omega
theorem cnt_take (ss : List Opr) (k : Nat) : cnt (ss.take k) ≤ cnt ss := by
  unfold cnt
  conv => rhs; rw [← List.take_append_drop k ss]
  rw [List.map_append, List.sum_append]
  omega
theorem cnt_mem {ss : List Opr} {s : Opr} (h : s ∈ ss) : min s.l.length 5000 + min s.set.length 5000 ≤ cnt ss := by
  obtain ⟨k, hk, rfl⟩ := List.mem_iff_getElem.1 h
  have := cnt_snoc hk
  have := cnt_take ss (k + 1)
  omega
/-- What large says. -/
def lrg (n : Int) (ss : List Opr) : Bool := (decide (100 < n) && decide (n ≤ 1048576)) || (decide (100 < ss.length) || decide (4000 < cnt ss))
theorem lrg_few {n : Int} {ss : List Opr} (h : lrg n ss = false) : (n ≤ 100 ∨ 1048576 < n) ∧ ss.length ≤ 100 ∧ cnt ss ≤ 4000 := by
  simp only [lrg, Bool.or_eq_false_iff, Bool.and_eq_false_iff, decide_eq_false_iff_not] at h
  omega
set_option maxHeartbeats 4000000 in
theorem large8 {W : World} (n : Int) {a : Option Addr} {c : Nat} {ss : List Opr} (h : Ops W a ss) (h8 : ss.length ≤ 8796093022208) :
    Calls Try.prog 8 #[.int .i64 n, .slice a ss.length c] W fun e w' => e = .returned (.bool (lrg n ss)) ∧ Drawn W w' := by
  have hsh : Hid (ss.length = 0) ∨ ∃ b off, a = some ⟨b, off, none⟩ := h.shape
  have HH := hid (fun (b off : Nat) (e : a = some ⟨b, off, none⟩) (w : World) (hw : Drawn W w) (j : Nat) (hj : j < ss.length) => (e ▸ h.below hw.below : Ops w (some ⟨b, off, none⟩) ss).at hj)
  obtain ⟨t, ht⟩ : ∃ t, ss.length = t := ⟨_, rfl⟩
  have HT := hid ht
  have H8 := hid h8
  obtain ⟨D, hD⟩ : ∃ D, lrg n ss = D := ⟨_, rfl⟩
  have HD := hid hD
  rw [ht] at hsh
  rw [ht, hD]
  have HFIN := hid (fun (k : Nat) (hk : k ≤ t) (hx : ¬ (k < t) ∨ 4000 < cnt (ss.take k)) => show lrg n ss = ((decide (100 < n) && decide (n ≤ 1048576)) || (decide (100 < t) || decide (4000 < cnt (ss.take k)))) from by
    unfold lrg
    rw [ht]
    congr 2
    rcases hx with hx | hx
    · rw [List.take_of_length_le (by omega)]
    · have := cnt_take ss k
      rw [decide_eq_true hx, decide_eq_true (by omega)])
  clear h h8 ht hD
  go_enter Try.func8, Try.ntmps8
  go_wp2_with (fail)
  rcases hsh with Z | ⟨b, off, hab⟩
  case' inr => subst hab
  all_goals
    go_loopw [6, 5] (fun i kv wr => ∃ k : Nat, k ≤ t ∧ i = .int .i64 (k : Nat) ∧ kv = .int .i64 (cnt (ss.take k) : Nat) ∧ Hid (cnt (ss.take k) ≤ 14000) ∧ Hid (Drawn W wr)) (fun i _ _ => t - (intOf i).toNat)
    case atStart => exact ⟨0, Nat.zero_le _, rfl, rfl, hid (Nat.zero_le _), hid (Drawn.refl _)⟩
    case round =>
      obtain ⟨k, hk, rfl, rfl, HC, HW⟩ := hrel
      have HF := hid (HFIN.out k hk)
      by_cases hlt : k < t
      · have hlt' : (k : Int) < t := by omega
        by_cases h4 : cnt (ss.take k) ≤ 4000
        · first
            | (exfalso; have := Z.out; omega)
            | (have h4' : ((cnt (ss.take k) : Nat) : Int) ≤ 4000 := by omega
               have hkl : k < ss.length := by rw [HT.out]; exact hlt
               have hsn := cnt_snoc hkl
               obtain ⟨a', b', ca, cb, ok, x0, x1, x2⟩ := HH.out b off rfl wr HW.out k hkl
               generalize ss[k].l.length = m1 at *
               generalize ss[k].set.length = m2 at *
               have HN := hid (show cnt (ss.take (k + 1)) ≤ 14000 by omega)
               have HS := hid hsn
               generalize cnt (ss.take k) = z at *
               have hwk : wrap64 ((k : Int) + 1) = (k : Int) + 1 := by have := H8.out; have := HT.out; unfold wrap64; omega
               clear ok x0 HF HFIN HC h4 hkl hsn
               go_wp2_with (fail)
               go_quiet (fail)
               have HW2 := hid (HW.out.drewN nq)
               go_wp2_with (fail)
               exact ⟨⟨k + 1, hlt, by rw [hwk]; rfl, by rw [HS.out]; congr 1; omega, HN, HW2⟩, by rw [hwk]; simp only [intOf]; exact meas hlt⟩)
        · have h4' : ¬ ((cnt (ss.take k) : Nat) : Int) ≤ 4000 := by omega
          have HG := hid (HF.out (.inr (by omega)))
          have p4 : (4000 : Int) < ((cnt (ss.take k) : Nat) : Int) := by omega
          have p4' : decide (4000 < cnt (ss.take k)) = true := decide_eq_true (by omega)
          rw [p4'] at HG
          generalize cnt (ss.take k) = z at *
          clear HF HFIN HC h4 p4'
          by_cases p1 : 100 < n <;> by_cases p2 : n ≤ 1048576 <;> by_cases p3 : (100 : Int) < t <;>
            (go_wp2; go_ret; exact ⟨by rw [← HD.out, HG.out, show decide (100 < t) = decide ((100 : Int) < t) from decide_eq_decide.2 (by omega)]; simp [p1, p2], HW.out⟩)
      · have hge : ¬ (k : Int) < t := by omega
        have HG := hid (HF.out (.inl hlt))
        generalize cnt (ss.take k) = z at *
        clear HF HFIN HC
        by_cases p1 : 100 < n <;> by_cases p2 : n ≤ 1048576 <;> by_cases p3 : (100 : Int) < t <;> by_cases p4 : (4000 : Int) < z <;>
          (go_wp2; go_ret; exact ⟨by rw [← HD.out, HG.out, show decide (100 < t) = decide ((100 : Int) < t) from decide_eq_decide.2 (by omega), show decide (4000 < z) = decide ((4000 : Int) < z) from decide_eq_decide.2 (by omega)]; simp [p1, p2, p3, p4], HW.out⟩)
end Go.Proofs.Ytjnifadfcnpdoaa
