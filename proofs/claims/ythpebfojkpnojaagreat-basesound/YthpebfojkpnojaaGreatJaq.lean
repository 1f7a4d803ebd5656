/- Whether formulas are right, by the program's function. -/
import Derived.Test.YthpebfojkpnojaaGreatJap
import Derived.Test.YthpebfojkpnojaaGreatJab
import Init
/- Whether formulas are right, by the program's function. -/
namespace Cq
theorem vr_nonneg (l : Int) : 0 ≤ Bas.vr l := by unfold Bas.vr; split <;> omega
def scan (vars : Int) : Nat → List Int → Int
  | _, [] => 0
  | c, l :: ls => if 16777216 < c + 1 then 3 else if Bas.vr l < 1 ∨ vars < Bas.vr l then 4 else scan vars (c + 1) ls
def right (vars : Int) (cs : List (List Int)) : Int := if vars < 0 ∨ 1048576 < vars then 2 else if 1048576 < cs.length then 3 else scan vars 0 cs.flatten
def okc (c : Nat) : Prop := c ≤ 16777216
theorem okc_zero : okc 0 := Nat.zero_le _

theorem drop_cons (xs : List Int) (k : Nat) (h : k < xs.length) : xs.drop k = xs.getD k 0 :: xs.drop (k + 1) := by
  rw [List.drop_eq_getElem_cons h]; simp [List.getD, h]
theorem drop_flat (cs : List (List Int)) (i : Nat) (h : i < cs.length) : (cs.drop i).flatten = cs.getD i [] ++ (cs.drop (i + 1)).flatten := by
  rw [List.drop_eq_getElem_cons h, List.flatten_cons]
  congr 1
  simp [List.getD, h]
theorem take_cls (cs : List (List Int)) (k : Nat) (h : k < cs.length) : cs.take (k + 1) = cs.take k ++ [cs.getD k []] := by
  rw [List.take_succ_eq_append_getElem h]; simp [List.getD, List.getElem?_eq_getElem h]
theorem getD_cls (cs : List (List Int)) (k : Nat) (h : k < cs.length) : cs.getD k [] ∈ cs := by simp [List.getD, List.getElem?_eq_getElem h]
theorem scan_limit (vars : Int) (c : Nat) (l : Int) (ls : List Int) (h : 16777216 < c + 1) : scan vars c (l :: ls) = 3 := by simp [scan, h]
theorem scan_lit (vars : Int) (c : Nat) (l : Int) (ls : List Int) (h : ¬ 16777216 < c + 1) (h2 : Bas.vr l < 1 ∨ vars < Bas.vr l) : scan vars c (l :: ls) = 4 := by
  unfold scan; rw [if_neg h, if_pos h2]
theorem scan_on (vars : Int) (c : Nat) (l : Int) (ls : List Int) (h : ¬ 16777216 < c + 1) (h2 : ¬ (Bas.vr l < 1 ∨ vars < Bas.vr l)) : scan vars c (l :: ls) = scan vars (c + 1) ls := by
  rw [scan, if_neg h, if_neg h2]
theorem flat_len (cs : List (List Int)) (k : Nat) (h : k < cs.length) : ((cs.take (k + 1)).flatten).length = ((cs.take k).flatten).length + (cs.getD k []).length := by
  rw [take_cls cs k h]; simp


theorem scan_zero (vars : Int) (ls : List Int) : ∀ c, scan vars c ls = 0 → c ≤ 16777216 → c + ls.length ≤ 16777216 ∧ ∀ l ∈ ls, 1 ≤ Bas.vr l ∧ Bas.vr l ≤ vars := by
  induction ls with
  | nil => intro c _ h; exact ⟨by simpa using h, fun l hl => (by cases hl)⟩
  | cons l ls ih =>
    intro c h hc
    by_cases h1 : 16777216 < c + 1
    · rw [scan_limit vars c l ls h1] at h; cases h
    · by_cases h2 : Bas.vr l < 1 ∨ vars < Bas.vr l
      · rw [scan_lit vars c l ls h1 h2] at h; cases h
      · rw [scan_on vars c l ls h1 h2] at h
        obtain ⟨q1, q2⟩ := ih (c + 1) h (by omega)
        refine ⟨by simp; omega, fun x hx => ?_⟩
        rcases List.mem_cons.1 hx with rfl | hx
        · omega
        · exact q2 x hx
end Cq
namespace Go.Proofs.YthpebfojkpnojaaGreat
open Go.RowKit Go.Maps
set_option linter.unusedVariables false
set_option linter.unusedSimpArgs false
theorem ret_num9 {a b : Int} (h : a = b) : Ending.returned (.int .i64 a) = .returned (.int .i64 b) := by rw [h]
/-- A row of clauses. -/
def Cls (w : World) (a : Option Addr) (cs : List (List Int)) : Prop :=
  (∀ c ∈ cs, c.length ≤ 35184372088832) ∧ (cs = [] ∨ ∃ b off, a = some ⟨b, off, none⟩ ∧ b < w.heap.size ∧ ∀ j, j < cs.length → ∃ a' cap', w.cell? ⟨b, off + j, none⟩ = some (.slice a' (cs.getD j []).length cap') ∧ Lits w a' (cs.getD j []))

theorem Cls.below {w w' : World} {a : Option Addr} {cs : List (List Int)} (h : Cls w a cs) (hb : Below w.heap.size w w') : Cls w' a cs := by
  refine ⟨h.1, ?_⟩
  rcases h.2 with h | ⟨b, off, e, hl, hc⟩
  · exact .inl h
  · refine .inr ⟨b, off, e, Nat.lt_of_lt_of_le hl hb.size, fun j hj => ?_⟩
    obtain ⟨a', cap', h1, h2⟩ := hc j hj
    exact ⟨a', cap', (hb.cell (p := ⟨b, off + j, none⟩) hl).trans h1, h2.below hb⟩

theorem Cls.at {w : World} {a : Option Addr} {cs : List (List Int)} (h : Cls w a cs) {k : Nat} (hk : k < cs.length) :
    ∃ b off a' cap', a = some ⟨b, off, none⟩ ∧ b < w.heap.size ∧ w.cell? ⟨b, off + k, none⟩ = some (.slice a' (cs.getD k []).length cap') ∧ Lits w a' (cs.getD k []) ∧ (cs.getD k []).length ≤ 35184372088832 := by
  rcases h.2 with rfl | ⟨b, off, e, hl, hc⟩
  · simp at hk
  · obtain ⟨a', cap', h1, h2⟩ := hc k hk
    exact ⟨b, off, a', cap', e, hl, h1, h2, h.1 _ (Cq.getD_cls cs k hk)⟩

set_option maxHeartbeats 2000000 in
theorem right47_arg (vars : Int) (a : Option Addr) (n cap : Nat) (w : World) (h : vars < 0 ∨ 1048576 < vars) :
    Calls Tryz.prog 33 #[.agg #[.int .i64 vars, .slice a n cap]] w fun e w' => e = .returned (.int .i64 2) ∧ Below w.heap.size w w' := by
  by_cases h0 : vars < 0
  · clear h
    go_enter Tryz.func33, Tryz.ntmps33
    go_wp2
    go_ret
    exact ⟨rfl, below_box _ _⟩
  · have h1 : 1048576 < vars := by omega
    clear h
    go_enter Tryz.func33, Tryz.ntmps33
    go_wp2
    go_ret
    exact ⟨rfl, below_box _ _⟩

set_option maxHeartbeats 2000000 in
theorem right47_limit (vars : Int) (a : Option Addr) (n cap : Nat) (w : World) (h1 : 0 ≤ vars) (h2 : vars ≤ 1048576) (h : 1048576 < n) :
    Calls Tryz.prog 33 #[.agg #[.int .i64 vars, .slice a n cap]] w fun e w' => e = .returned (.int .i64 3) ∧ Below w.heap.size w w' := by
  have h0 : (1048576 : Int) < (n : Int) := by omega
  clear h
  go_enter Tryz.func33, Tryz.ntmps33
  go_wp2
  go_ret
  exact ⟨rfl, below_box _ _⟩

set_option maxRecDepth 100000 in
theorem right47_scan (vars : Int) (a : Option Addr) (n cap : Nat) (cs : List (List Int)) (w : World) (h1 : 0 ≤ vars) (h2 : vars ≤ 1048576) (h : n ≤ 1048576) (hn : cs.length = n) (hc : Cls w a cs) :
    Calls Tryz.prog 33 #[.agg #[.int .i64 vars, .slice a n cap]] w fun e w' => e = .returned (.int .i64 (Cq.scan vars 0 cs.flatten)) ∧ Below w.heap.size w w' := by
  have HC := hid (hc.below (below_box w (.cells #[.int .i64 vars, .slice a n cap] 24)))
  have HN := hid hn
  have h0 : ¬ (1048576 : Int) < (n : Int) := by omega
  clear hc hn h
  generalize hr : Cq.scan vars 0 cs.flatten = res
  have HR := hid hr
  clear hr
  go_enter Tryz.func33, Tryz.ntmps33
  go_wp2
  go_loop [3, 24] (fun s i => ∃ (k c : Nat), k ≤ n ∧ i = .int .i64 k ∧ s = .int .i64 c ∧ Cq.okc c ∧ Cq.scan vars c (cs.drop k).flatten = res) (fun _ i => n - (intOf i).toNat)
  case atStart => exact ⟨0, 0, Nat.zero_le _, rfl, rfl, Cq.okc_zero, by simpa using HR.out⟩
  case round =>
    obtain ⟨k, c, hk, rfl, rfl, hc16, hs⟩ := hrel
    have HS := hid hs
    clear hs
    by_cases hlt : k < n
    · obtain ⟨b, off, a', cap', rfl, hbl, hcell, hL, hln⟩ := HC.out.at (k := k) (by rw [HN.out]; exact hlt)
      have HL := hid hL
      clear hL
      have HS2 : Hid (Cq.scan vars c ((cs.getD k []).drop 0 ++ (cs.drop (k + 1)).flatten) = res) := by
        have h := HS.out
        rw [Cq.drop_flat cs k (by rw [HN.out]; exact hlt)] at h
        exact h
      generalize ht : (cs.drop (k + 1)).flatten = tail at HS2
      have HTL := hid ht
      generalize hys : cs.getD k [] = ys at hcell hln HL HS2
      generalize hm : ys.length = m at hcell hln
      have HM := hid hm
      clear hm hys ht
      go_wp2
      go_loop [3, 30] (fun s i => ∃ (j d : Nat), j ≤ m ∧ i = .int .i64 j ∧ s = .int .i64 d ∧ Cq.okc d ∧ Cq.scan vars d (ys.drop j ++ tail) = res) (fun _ i => m - (intOf i).toNat)
      case atStart => exact ⟨0, c, Nat.zero_le _, rfl, rfl, hc16, HS2.out⟩
      case round =>
        clear HS2 HS
        obtain ⟨j, d, hj, rfl, rfl, hd0, hs⟩ := hrel
        have HS := hid hs
        have HD0 := hid hd0
        have hd : (d : Int) ≤ 16777216 := by have h : d ≤ 16777216 := hd0; omega
        clear hs hd0
        by_cases hjm : j < m
        · obtain ⟨b2, o2, e2, _, hc2, hx1, hx2⟩ := Row.at HL.out (by rw [HM.out]; exact hjm)
          subst e2
          have HS3 : Hid (Cq.scan vars d (ys.getD j 0 :: (ys.drop (j + 1) ++ tail)) = res) := by
            have h := HS.out
            rw [Cq.drop_cons ys j (by rw [HM.out]; exact hjm)] at h
            exact h
          generalize ys.getD j 0 = x at hc2 hx1 hx2 HS3
          clear HS
          by_cases h16 : 16777216 < d + 1
          · have HF : Hid (res = 3) := by
              have h := HS3.out
              rw [Cq.scan_limit _ _ _ _ h16] at h
              exact h.symm
            have h16' : (16777216 : Int) < (d : Int) + 1 := by omega
            clear HS3 h16
            go_wp2
            go_ret
            exact ⟨ret_num9 HF.out.symm, below_box _ _⟩
          · have h16' : ¬ (16777216 : Int) < (d : Int) + 1 := by omega
            have CX := hid (fun W => var49 x W ⟨hx1, hx2⟩)
            have hv0 := Cq.vr_nonneg x
            by_cases hlit : Bas.vr x < 1 ∨ vars < Bas.vr x
            · have HF : Hid (res = 4) := by
                have h := HS3.out
                rw [Cq.scan_lit _ _ _ _ h16 hlit] at h
                exact h.symm
              clear HS3
              generalize Bas.vr x = v at *
              by_cases hv1 : v < 1
              · clear hlit
                go_wp2_with (go_at_call 71; refine (CX.out _).mono ?_; rintro e w' ⟨rfl, rfl⟩)
                go_ret
                exact ⟨ret_num9 HF.out.symm, below_box _ _⟩
              · have hv2 : vars < v := by omega
                clear hlit
                go_wp2_with (go_at_call 71; refine (CX.out _).mono ?_; rintro e w' ⟨rfl, rfl⟩)
                go_ret
                exact ⟨ret_num9 HF.out.symm, below_box _ _⟩
            · have HF : Hid (Cq.scan vars (d + 1) (ys.drop (j + 1) ++ tail) = res) := by
                have h := HS3.out
                rw [Cq.scan_on _ _ _ _ h16 hlit] at h
                exact h
              have HD1 : Hid (Cq.okc (d + 1)) := by show d + 1 ≤ 16777216; omega
              clear HS3 h16
              have hv1 : ¬ Bas.vr x < 1 := by omega
              have hv2 : ¬ vars < Bas.vr x := by omega
              generalize Bas.vr x = v at *
              clear hlit
              go_wp2_with fail
              refine (CX.out _).mono ?_
              rintro e w' ⟨rfl, rfl⟩
              clear hd h16'
              go_wp2_with fail
              go_round
              case rel => exact ⟨j + 1, d + 1, by omega, by go_num, by go_num, HD1.out, HF.out⟩
              case measure => simp [intOf]; omega
        · have HF : Hid (Cq.scan vars d tail = res) := by
            have h := HS.out
            rw [List.drop_of_length_le (by rw [HM.out]; omega)] at h
            exact h
          clear HS
          go_wp2
          go_round
          case rel => exact ⟨k + 1, d, by omega, by go_num, rfl, HD0.out, by rw [HTL.out]; exact HF.out⟩
          case measure => simp [intOf]; omega
    · have HS2 : Hid (res = 0) := by
        have h := HS.out
        rw [List.drop_of_length_le (by rw [HN.out]; omega)] at h
        exact h.symm
      clear HS
      go_wp2
      go_ret
      exact ⟨ret_num9 HS2.out.symm, below_box _ _⟩


theorem right47 (vars : Int) (a : Option Addr) (n cap : Nat) (cs : List (List Int)) (w : World) (hn : cs.length = n) (hc : Cls w a cs) :
    Calls Tryz.prog 33 #[.agg #[.int .i64 vars, .slice a n cap]] w fun e w' => e = .returned (.int .i64 (Cq.right vars cs)) ∧ Below w.heap.size w w' := by
  unfold Cq.right
  by_cases h1 : vars < 0 ∨ 1048576 < vars
  · rw [if_pos h1]; exact right47_arg vars a n cap w h1
  · rw [if_neg h1, hn]
    by_cases h2 : 1048576 < n
    · rw [if_pos h2]; exact right47_limit vars a n cap w (by omega) (by omega) h2
    · rw [if_neg h2]; exact right47_scan vars a n cap cs w (by omega) (by omega) (by omega) hn hc
theorem right_zero {vars : Int} {cs : List (List Int)} (h : Cq.right vars cs = 0) : 0 ≤ vars ∧ vars ≤ 1048576 ∧ cs.length ≤ 1048576 ∧ cs.flatten.length ≤ 16777216 ∧ ∀ l ∈ cs.flatten, 1 ≤ Bas.vr l ∧ Bas.vr l ≤ vars := by
  unfold Cq.right at h
  by_cases h1 : vars < 0 ∨ 1048576 < vars
  · rw [if_pos h1] at h; cases h
  · rw [if_neg h1] at h
    by_cases h2 : 1048576 < cs.length
    · rw [if_pos h2] at h; cases h
    · rw [if_neg h2] at h
      obtain ⟨q1, q2⟩ := Cq.scan_zero vars cs.flatten 0 h (by omega)
      exact ⟨by omega, by omega, by omega, by omega, q2⟩
end Go.Proofs.YthpebfojkpnojaaGreat

/- A new base: its memory. -/
namespace Bas
theorem start_snoc (f : List (List Int)) (c : List Int) (i : Int) : start (f ++ [c]) i = start f i ++ [⟨i + f.length, c, false⟩] := by
  unfold start
  rw [List.zipIdx_append, List.map_append]
  simp
theorem start_ids (f : List (List Int)) (i : Int) : ∀ e ∈ start f i, i ≤ e.id ∧ e.id < i + f.length := by
  intro e he
  unfold start at he
  obtain ⟨⟨c, j⟩, hj, rfl⟩ := List.mem_map.1 he
  have := List.mem_zipIdx hj
  dsimp only
  omega
/-- A base while its clauses come. -/
def part (vars : Int) (cs : List (List Int)) (k : Nat) : S := ⟨vars, cs.length, k, start (cs.take k) 1, [], []⟩
theorem part_zero (vars : Int) (cs : List (List Int)) : part vars cs 0 = ⟨vars, cs.length, 0, [], [], []⟩ := rfl
end Bas
namespace Go.Proofs.YthpebfojkpnojaaGreat
open Go.RowKit Go.Maps
set_option linter.unusedVariables false
set_option linter.unusedSimpArgs false
theorem alloc_get (w : World) (o : Obj) (k : Nat) : (w.alloc o).heap[k]? = if k = w.heap.size then some o else w.heap[k]? := by
  by_cases h : k = w.heap.size
  · rw [if_pos h, h]; exact heap_alloc_new w o
  · rw [if_neg h]
    rcases Nat.lt_or_ge k w.heap.size with h2 | h2
    · exact (below_box w o).block k h2
    · rw [Array.getElem?_eq_none (by simp; omega), Array.getElem?_eq_none h2]
theorem mp_empty {W : World} {b : Nat} (h : W.heap[b]? = some (.map #[] 0)) : Mp W b 0 (fun _ => none) := by
  obtain ⟨D, ⟨es, cl, hh, r⟩, h2⟩ := Mp.new W
  rw [heap_alloc_new] at hh
  injection hh with hh
  injection hh with h3 h4
  exact ⟨D, ⟨es, cl, by rw [h, h3, h4], r⟩, h2⟩
theorem mr_empty {W : World} {b : Nat} (h : W.heap[b]? = some (.map #[] 0)) : Mr W b 0 (fun _ => none) := by
  obtain ⟨D, ⟨es, cl, hh, r⟩, h2⟩ := Mr.new W
  rw [heap_alloc_new] at hh
  injection hh with hh
  injection hh with h3 h4
  exact ⟨D, ⟨es, cl, by rw [h, h3, h4], r⟩, h2⟩
theorem Bs.new {M : Nat → Prop} {bb bm br gt : Nat} {vars : Int} {cs : List (List Int)} {W : World} (hv : 0 ≤ vars ∧ vars ≤ 1048576) (hb : W.heap[bb]? = some (.cells #[.int .i64 vars, .int .i64 cs.length, .int .i64 0, .map (some bm), .map (some br), .slice none 0 0, .int .i64 0, .slice none 0 0, .slice (some ⟨gt, 0, none⟩) (vars.toNat + 1) (vars.toNat + 1)] 76 (0, 0)))
    (hm : W.heap[bm]? = some (.map #[] 0)) (hr : W.heap[br]? = some (.map #[] 0)) (hg : W.heap[gt]? = some (.cells (madeCells #[.int .i32 0] (vars.toNat + 1)) 66 (0, 0))) (hne : bm ≠ br) (m1 : M bb) (m2 : M bm) (m3 : M br) (m4 : M gt) : Bs M bb 0 (Bas.part vars cs 0) W := by
  refine ⟨hv, bm, br, 0, 0, fun _ => none, fun _ => none, .slice none 0 0, .slice none 0 0, .slice (some ⟨gt, 0, none⟩) (vars.toNat + 1) (vars.toNat + 1), [], [], fun _ => 0, fun _ => [], fun _ => .slice none 0 0, hb, m1, m2, m3, hne, ⟨mp_empty hm, Nat.le_refl _, fun id _ => rfl⟩, ⟨mr_empty hr, Nat.le_refl _, (fun l v h => (by cases h)), (fun l _ => rfl), (fun l l' v v' h => (by cases h))⟩, ⟨⟨World.ownsRow_nil _ _ _ _, (fun g h => (by cases h))⟩, rfl, (fun q h => (by cases h))⟩, ⟨⟨World.ownsRow_nil _ _ _ _, (fun g h => (by cases h))⟩, rfl, (fun q h => (by cases h))⟩, ?_, ?_⟩
  · refine own_mk (Nat.zero_le _) hg (Nat.le_refl _) (by unfold maxLen; have := hv.2; omega) (by rw [size_madeCells]) ?_
    rw [toList_madeCells_one, List.take_of_length_le (by simp)]
    rfl
  · intro g h
    cases h
    exact m4
end Go.Proofs.YthpebfojkpnojaaGreat

/- A new base is good. -/
namespace Bas
theorem start_pw (f : List (List Int)) : ∀ i : Int, (start f i).Pairwise (fun d e => d.id < e.id) := by
  intro i
  unfold start
  rw [List.pairwise_map]
  have : ((f.zipIdx).map (·.2)).Pairwise (· < ·) := by
    rw [List.zipIdx_map_snd]
    exact List.pairwise_lt_range'
  rw [List.pairwise_map] at this
  exact this.imp (fun h => by simp only; omega)
theorem new_good {vars : Int} {cs : List (List Int)} (h : Cq.right vars cs = 0) : Good (new vars cs) := by
  obtain ⟨h1, h2, h3, h4, h5⟩ := Go.Proofs.YthpebfojkpnojaaGreat.right_zero h
  refine ⟨start_pw cs 1, fun e he => ?_, fun e he x hx => ?_, rfl, ⟨h1, h2⟩, ⟨by show (0 : Int) ≤ (cs.length : Int); omega, Int.le_refl _⟩⟩
  · have := start_ids cs 1 e he
    show 1 ≤ e.id ∧ e.id ≤ (cs.length : Int)
    omega
  · obtain ⟨p, hp, rfl⟩ := List.mem_map.1 he
    have hm : p.1 ∈ cs := (List.mem_zipIdx' hp).2 ▸ List.getElem_mem _
    have := h5 x (List.mem_flatten.2 ⟨p.1, hm, hx⟩)
    refine ⟨fun e0 => ?_, this.2⟩
    rw [e0] at this
    simp [vr] at this
end Bas

/- Plain functions on lists of integers and of Booleans: what the document's words on literals, clauses and models say; nothing of the program. -/
namespace Cnt

def vr (l : Int) : Int := if l < 0 then -l else l
def tr (l : Int) (m : List Bool) : Bool := decide (1 ≤ vr l) && (decide (vr l ≤ m.length) && (m.getD (vr l - 1).toNat false == decide (0 < l)))
def val (c : List Int) (m : List Bool) : Bool := c.any (fun l => tr l m)

theorem vr_nonneg (l : Int) : 0 ≤ vr l := by unfold vr; split <;> omega
theorem vr_le (l : Int) (h1 : -2147483648 ≤ l) (h2 : l ≤ 2147483647) : vr l ≤ 2147483648 := by unfold vr; split <;> omega


theorem take_snoc (xs : List Int) (k : Nat) (h : k < xs.length) : xs.take (k + 1) = xs.take k ++ [xs.getD k 0] := by
  rw [List.take_succ_eq_append_getElem h]; simp [List.getD, List.getElem?_eq_getElem h]
theorem getD_mem (xs : List Int) (k : Nat) (h : k < xs.length) : xs.getD k 0 ∈ xs := by simp [List.getD, List.getElem?_eq_getElem h]
theorem val_take (xs : List Int) (m : List Bool) (k : Nat) (h : k < xs.length) : val (xs.take (k + 1)) m = (val (xs.take k) m || tr (xs.getD k 0) m) := by
  rw [take_snoc xs k h]; simp [val]
theorem val_true (xs : List Int) (m : List Bool) (k : Nat) (h : k < xs.length) (ht : tr (xs.getD k 0) m = true) : val xs m = true := by
  simp only [val, List.any_eq_true]; exact ⟨_, getD_mem xs k h, ht⟩


/-! ### The order of literals -/
def cmp3 (x y : Int) : Int := if x < y then -1 else if y < x then 1 else 0
def cmpL (a b : Int) : Int := if vr a < vr b then -1 else if vr b < vr a then 1 else cmp3 a b
def LtL (a b : Int) : Prop := vr a < vr b ∨ (vr a = vr b ∧ a < b)

theorem cmpL_neg (a b : Int) : cmpL a b < 0 ↔ LtL a b := by
  unfold cmpL cmp3 LtL
  split
  · constructor <;> intro <;> omega
  · split
    · constructor <;> intro <;> omega
    · split
      · constructor <;> intro <;> omega
      · split <;> constructor <;> intro <;> omega
theorem cmpL_zero (a b : Int) : cmpL a b = 0 ↔ a = b := by
  unfold cmpL cmp3
  constructor
  · intro h
    split at h
    · omega
    · split at h
      · omega
      · split at h
        · omega
        · split at h <;> omega
  · intro h
    subst h
    simp
theorem LtL.irrefl (a : Int) : ¬ LtL a a := by unfold LtL; omega
theorem LtL.trans {a b c : Int} (h1 : LtL a b) (h2 : LtL b c) : LtL a c := by unfold LtL at *; omega
theorem LtL.total {a b : Int} (h1 : ¬ LtL a b) (h2 : ¬ LtL b a) : a = b := by unfold LtL at *; omega

/-- The row ys is the set of xs in order, each once. -/
def Nrm (xs ys : List Int) : Prop := ys.Pairwise LtL ∧ ∀ x, x ∈ ys ↔ x ∈ xs

theorem sorted_eq : ∀ {ys zs : List Int}, ys.Pairwise LtL → zs.Pairwise LtL → (∀ x, x ∈ ys ↔ x ∈ zs) → ys = zs
  | [], [], _, _, _ => rfl
  | [], z :: zs, _, _, h => by have := (h z).2 (by simp); simp at this
  | y :: ys, [], _, _, h => by have := (h y).1 (by simp); simp at this
  | y :: ys, z :: zs, h1, h2, h => by
    have a1 := List.pairwise_cons.1 h1
    have a2 := List.pairwise_cons.1 h2
    have e : y = z := by
      have b1 := (h y).1 (by simp)
      have b2 := (h z).2 (by simp)
      simp only [List.mem_cons] at b1 b2
      rcases b1 with b1 | b1
      · exact b1
      · rcases b2 with b2 | b2
        · exact b2.symm
        · exact absurd ((a1.1 z b2).trans (a2.1 y b1)) (LtL.irrefl y)
    subst e
    have t : ys = zs := sorted_eq a1.2 a2.2 (fun x => by
      have hx := h x
      simp only [List.mem_cons] at hx
      constructor
      · intro m
        rcases hx.1 (Or.inr m) with e | e
        · subst e; exact absurd (a1.1 x m) (LtL.irrefl x)
        · exact e
      · intro m
        rcases hx.2 (Or.inr m) with e | e
        · subst e; exact absurd (a2.1 x m) (LtL.irrefl x)
        · exact e)
    rw [t]

theorem Nrm.unique {xs ys zs : List Int} (h1 : Nrm xs ys) (h2 : Nrm xs zs) : ys = zs := sorted_eq h1.1 h2.1 (fun x => (h1.2 x).trans (h2.2 x).symm)

/-! ### What a row has -/
def has (xs : List Int) (x : Int) : Bool := xs.any (fun y => x == y)
theorem has_iff (xs : List Int) (x : Int) : has xs x = true ↔ x ∈ xs := by simp [has]
theorem has_false (xs : List Int) (x : Int) : has xs x = false ↔ x ∉ xs := by rw [← has_iff]; simp
def but (xs : List Int) (l : Int) : List Int := xs.filter (fun x => x != l)
theorem mem_but (xs : List Int) (l x : Int) : x ∈ but xs l ↔ x ∈ xs ∧ x ≠ l := by simp [but]
theorem but_take (xs : List Int) (l : Int) (k : Nat) (h : k < xs.length) : but (xs.take (k + 1)) l = but (xs.take k) l ++ (if xs.getD k 0 != l then [xs.getD k 0] else []) := by
  rw [take_snoc xs k h]
  unfold but
  rw [List.filter_append]
  congr 1
  generalize xs.getD k 0 = y
  by_cases e : y = l <;> simp [e]
theorem but_len (xs : List Int) (l : Int) : (but xs l).length ≤ xs.length := List.length_filter_le _ _

def both (xs : List Int) : Bool := xs.any (fun x => decide (0 < x) && xs.contains (-x))

end Cnt

