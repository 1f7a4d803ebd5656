/- The reader's rows. -/
import Derived.Test.YtmgeoeajnpnadaaNumR
namespace Go.Proofs.Ytmgeoeajnpnadaa
open Go.RowKit
set_option linter.unusedVariables false
set_option linter.unusedSimpArgs false

set_option maxRecDepth 100000 in
set_option maxHeartbeats 2000000 in
theorem room59 (rb : Nat) (W : World) (ra : Option Addr) (rn rc : Nat) (kd id : Int) (lv hv : Value) (it : Int) (h : Rd rb W ra rn rc kd id lv hv it) (h0 : 0 ≤ it) (h1 : it ≤ 1099511627776) :
    Calls Try.prog 59 #[.pointer (some ⟨rb, 0, none⟩)] W fun e w' => e = .returned (.bool (decide (it + 1 ≤ 16777216))) ∧ w' = W.setCell ⟨rb, 5, none⟩ (.int .i64 (it + 1)) := by
  have c6 : W.cell? ⟨rb, 5, none⟩ = some (.int .i64 it) := h.cells 5 _ rfl
  have f6 := row_frozen h.blk 5
  have c6' : (W.setCell ⟨rb, 5, none⟩ (.int .i64 (it + 1))).cell? ⟨rb, 5, none⟩ = some (.int .i64 (it + 1)) := (h.items (it + 1)).cells 5 _ rfl
  clear h
  go_enter Try.func59, Try.ntmps59
  go_wp2
  go_ret
  exact ⟨rfl, rfl⟩

set_option maxRecDepth 100000 in
set_option maxHeartbeats 2000000 in
theorem takeAdded43 (rb : Nat) (W : World) (ra : Option Addr) (rn rc : Nat) (kd id : Int) (lv hv : Value) (it : Int) (n : Int) (h : Rd rb W ra rn rc kd id lv hv it) :
    Calls Try.prog 43 #[.pointer (some ⟨rb, 0, none⟩), .int .i64 n] W fun e w' => e = .returned (.bool (Lra.added n)) ∧ w' = W.setCell ⟨rb, 2, none⟩ (.int .i64 n) := by
  have c3 : W.cell? ⟨rb, 2, none⟩ = some (.int .i64 id) := h.cells 2 _ rfl
  have f3 := row_frozen h.blk 2
  have C := fun w => hid (added28 n w)
  clear h
  go_enter Try.func43, Try.ntmps43
  go_wp2_with (go_at_call 28; refine (C _).out.mono ?_; clear C; rintro e W ⟨rfl, rfl⟩)
  go_ret
  exact ⟨rfl, rfl⟩
set_option maxRecDepth 100000 in
set_option maxHeartbeats 2000000 in
theorem takeKnown47 (rb : Nat) (W : World) (ra : Option Addr) (rn rc : Nat) (kd id : Int) (lv hv : Value) (it : Int) (n : Int) (h : Rd rb W ra rn rc kd id lv hv it) :
    Calls Try.prog 47 #[.pointer (some ⟨rb, 0, none⟩), .int .i64 n] W fun e w' => e = .returned (.bool (Lra.known n)) ∧ w' = W.setCell ⟨rb, 2, none⟩ (.int .i64 n) := by
  have c3 : W.cell? ⟨rb, 2, none⟩ = some (.int .i64 id) := h.cells 2 _ rfl
  have f3 := row_frozen h.blk 2
  have C := fun w => hid (known33 n w)
  clear h
  go_enter Try.func47, Try.ntmps47
  go_wp2_with (go_at_call 33; refine (C _).out.mono ?_; clear C; rintro e W ⟨rfl, rfl⟩)
  go_ret
  exact ⟨rfl, rfl⟩

theorem row_ne {W : World} {b base n : Nat} {cs : Array Value} {t e : TypeId} {fr : Nat × Nat} {v : Value} {xs : List Value} (h : W.heap[b]? = some (.cells cs t fr)) (hr : W.ownsRow base e 1 v n xs) (hne : t ≠ e) : some b ≠ v.ownBlock := by
  rcases hr.2 with ⟨rfl, _⟩ | ⟨g, cap, cur, rfl, _, hgb, _⟩
  · simp [Value.ownBlock]
  · intro e'
    obtain rfl : b = g := by simpa [Value.ownBlock] using e'
    rw [h] at hgb
    cases hgb
    exact hne rfl
theorem row_same {W W' : World} {base n : Nat} {e : TypeId} {v : Value} {xs : List Value} (h : W.ownsRow base e 1 v n xs) (hk : ∀ g cs, v.ownBlock = some g → W.heap[g]? = some (.cells cs e (0, 0)) → W'.heap[g]? = W.heap[g]?) : W'.ownsRow base e 1 v n xs := by
  refine ⟨h.1, ?_⟩
  rcases h.2 with h' | ⟨g, cap, cur, rfl, h1, h2, h3⟩
  · exact .inl h'
  · exact .inr ⟨g, cap, cur, rfl, h1, (hk g cur rfl h2).trans h2, h3⟩

/-- A reader in block rb, and the rows that it holds. -/
structure RdO (base rb : Nat) (W : World) (ra : Option Addr) (rn rc : Nat) (kd id : Int) (ls hs : List Int) (it : Int) (lv hv : Value) : Prop where
  rd : Rd rb W ra rn rc kd id lv hv it
  lt : rb < base
  lo : W.ownsRow base 44 1 lv ls.length (ls.map (Value.int .i32))
  ho : W.ownsRow base 2 1 hv hs.length (hs.map (Value.int .i64))

/-- Nothing turned but the reader and its rows. -/
structure Mv (rb : Nat) (W W' : World) (lv hv lv' hv' : Value) : Prop where
  os : W'.os = W.os
  tape : W'.tape = W.tape
  output : W'.output = W.output
  size : W.heap.size ≤ W'.heap.size
  block : ∀ i, i < W.heap.size → i ≠ rb → lv.ownBlock ≠ some i → hv.ownBlock ≠ some i → W'.heap[i]? = W.heap[i]?
  lown : ∀ i, i < W.heap.size → lv'.ownBlock = some i → lv.ownBlock = some i
  hown : ∀ i, i < W.heap.size → hv'.ownBlock = some i → hv.ownBlock = some i
theorem Mv.refl (rb : Nat) (W : World) (lv hv : Value) : Mv rb W W lv hv lv hv := ⟨rfl, rfl, rfl, Nat.le_refl _, fun _ _ _ _ _ => rfl, fun _ _ h => h, fun _ _ h => h⟩
theorem Mv.trans {rb : Nat} {A B C : World} {l0 h0 l1 h1 l2 h2 : Value} (h : Mv rb A B l0 h0 l1 h1) (k : Mv rb B C l1 h1 l2 h2) : Mv rb A C l0 h0 l2 h2 :=
  ⟨k.os.trans h.os, k.tape.trans h.tape, k.output.trans h.output, Nat.le_trans h.size k.size,
   fun i hi hr hl hh => (k.block i (Nat.lt_of_lt_of_le hi h.size) hr (fun e => hl (h.lown i hi e)) (fun e => hh (h.hown i hi e))).trans (h.block i hi hr hl hh),
   fun i hi e => h.lown i hi (k.lown i (Nat.lt_of_lt_of_le hi h.size) e), fun i hi e => h.hown i hi (k.hown i (Nat.lt_of_lt_of_le hi h.size) e)⟩
theorem Mv.set (rb k : Nat) (W : World) (u lv hv : Value) : Mv rb W (W.setCell ⟨rb, k, none⟩ u) lv hv lv hv := ⟨rfl, rfl, rfl, by simp [World.setCell], fun i _ hr _ _ => heap_other _ _ hr, fun _ _ h => h, fun _ _ h => h⟩
theorem Mv.drewN (rb q : Nat) (W : World) (lv hv : Value) : Mv rb W (W.drewN q) lv hv lv hv := ⟨rfl, rfl, rfl, Nat.le_refl _, fun i _ hr _ _ => rfl, fun _ _ h => h, fun _ _ h => h⟩

/-- A hint more. -/
theorem RdO.hint {base rb : Nat} {W : World} {ra : Option Addr} {rn rc : Nat} {kd id : Int} {ls hs : List Int} {it : Int} {lv hv : Value} (h : RdO base rb W ra rn rc kd id ls hs it lv hv) (hb : base ≤ W.heap.size) (hl : hs.length ≤ 16777216) (n : Int) :
    ∃ o c B, (Builtin.append_ #[39, 39] 39 #[hv, .slice (some ⟨W.heap.size, 0, none⟩) 1 1]).run Try.prog (W.alloc (.cells #[.int .i64 n] 2)) = .ok (.slice o (hs.length + 1) c) B ∧
      B.heap[rb]? = W.heap[rb]? ∧
      RdO base rb (B.setCell ⟨rb, 4, none⟩ (.slice o (hs.length + 1) c)) ra rn rc kd id ls (hs ++ [n]) it lv (.slice o (hs.length + 1) c) ∧
      Mv rb W (B.setCell ⟨rb, 4, none⟩ (.slice o (hs.length + 1) c)) lv hv lv (.slice o (hs.length + 1) c) := by
  obtain ⟨i0, hi, hz⟩ := Option.map_eq_some_iff.1 info2
  simp only [Prod.mk.injEq] at hz
  obtain ⟨hz0, hz1, hz2⟩ := hz
  obtain ⟨W1, hW1⟩ : ∃ W1, W.alloc (.cells #[.int .i64 n] 2) = W1 := ⟨_, rfl⟩
  have hM : W1.heap[W.heap.size]? = some (.cells #[.int .i64 n] 2 (0, 0)) := by rw [← hW1]; exact heap_alloc_new _ _
  have h01 : Below W.heap.size W W1 := by rw [← hW1]; exact below_box _ _
  have hs1 : W1.heap.size = W.heap.size + 1 := by rw [← hW1]; simp
  have hop := own_below h.ho h01
  rw [hW1]
  obtain ⟨v2, B, hr, ho2, hg, _, hat⟩ := run_append_own_at (P := Try.prog) W1 base 39 39 2 i0 _ 1 8 Try.underlying39 hi hz0 hz1 hz2 rfl (by decide) hv hs.length _ hop ⟨W.heap.size, 0, none⟩ 1 1 [.int .i64 n] rfl (fun j u hu => by
    match j, hu with
    | 0, hu => simp at hu; subst hu; rw [show (⟨W.heap.size, 0, none⟩ : Addr).add 0 = ⟨W.heap.size, 0, none⟩ from rfl, row_cell hM 0]; rfl
    | j + 1, hu => simp at hu) (by simp [Value.oneCell']) (by simp [maxLen]; omega) (by omega) (by omega)
  obtain ⟨o', cp', rfl⟩ := own_slc ho2
  have hrbl := (Array.getElem?_eq_some_iff.1 h.rd.blk).1
  have keep : ∀ k, k < W.heap.size → hv.ownBlock ≠ some k → B.heap[k]? = W.heap[k]? := fun k hk hne =>
    (hg.block _ (by omega) (fun e => hne e.symm)).trans (h01.block _ hk)
  have hrb : B.heap[rb]? = W.heap[rb]? := keep rb hrbl (fun e => row_ne h.rd.blk h.ho (by decide) e.symm)
  refine ⟨o', cp', B, hr, hrb, ⟨?_, h.lt, ?_, ?_⟩, ?_⟩
  · exact Rd.hints (it := it) (hv := hv) ⟨hrb.trans h.rd.blk⟩ _
  · refine own_set ?_ h.lt _
    exact row_same h.lo (fun k cs hk hkk => keep k (Array.getElem?_eq_some_iff.1 hkk).1 (fun e => row_ne hkk h.ho (by decide) e.symm))
  · refine own_set ?_ h.lt _
    rw [show (hs ++ [n]).length = hs.length + 1 by simp, List.map_append]
    exact ho2
  · refine ⟨hg.os.trans h01.os, hg.tape.trans h01.tape, hg.output.trans h01.output, ?_, fun i hi hr hl hh => (heap_other _ _ hr).trans (keep i hi hh), fun _ _ h => h, fun i hi e => ?_⟩
    · have := hg.size; simp [World.setCell]; omega
    · rcases hat with hat | hat
      · rw [← hat]; exact e
      · rw [hat] at e; cases e; omega
/-- A literal more. -/
theorem RdO.lit {base rb : Nat} {W : World} {ra : Option Addr} {rn rc : Nat} {kd id : Int} {ls hs : List Int} {it : Int} {lv hv : Value} (h : RdO base rb W ra rn rc kd id ls hs it lv hv) (hb : base ≤ W.heap.size) (hl : ls.length ≤ 16777216) (n : Int) :
    ∃ o c B, (Builtin.append_ #[41, 41] 41 #[lv, .slice (some ⟨W.heap.size, 0, none⟩) 1 1]).run Try.prog (W.alloc (.cells #[.int .i32 n] 44)) = .ok (.slice o (ls.length + 1) c) B ∧
      B.heap[rb]? = W.heap[rb]? ∧
      RdO base rb (B.setCell ⟨rb, 3, none⟩ (.slice o (ls.length + 1) c)) ra rn rc kd id (ls ++ [n]) hs it (.slice o (ls.length + 1) c) hv ∧
      Mv rb W (B.setCell ⟨rb, 3, none⟩ (.slice o (ls.length + 1) c)) lv hv (.slice o (ls.length + 1) c) hv := by
  obtain ⟨i0, hi, hz⟩ := Option.map_eq_some_iff.1 info44
  simp only [Prod.mk.injEq] at hz
  obtain ⟨hz0, hz1, hz2⟩ := hz
  obtain ⟨W1, hW1⟩ : ∃ W1, W.alloc (.cells #[.int .i32 n] 44) = W1 := ⟨_, rfl⟩
  have hM : W1.heap[W.heap.size]? = some (.cells #[.int .i32 n] 44 (0, 0)) := by rw [← hW1]; exact heap_alloc_new _ _
  have h01 : Below W.heap.size W W1 := by rw [← hW1]; exact below_box _ _
  have hs1 : W1.heap.size = W.heap.size + 1 := by rw [← hW1]; simp
  have hop := own_below h.lo h01
  rw [hW1]
  obtain ⟨v2, B, hr, ho2, hg, _, hat⟩ := run_append_own_at (P := Try.prog) W1 base 41 41 44 i0 _ 1 4 Try.underlying41 hi hz0 hz1 hz2 rfl (by decide) lv ls.length _ hop ⟨W.heap.size, 0, none⟩ 1 1 [.int .i32 n] rfl (fun j u hu => by
    match j, hu with
    | 0, hu => simp at hu; subst hu; rw [show (⟨W.heap.size, 0, none⟩ : Addr).add 0 = ⟨W.heap.size, 0, none⟩ from rfl, row_cell hM 0]; rfl
    | j + 1, hu => simp at hu) (by simp [Value.oneCell']) (by simp [maxLen]; omega) (by omega) (by omega)
  obtain ⟨o', cp', rfl⟩ := own_slc ho2
  have hrbl := (Array.getElem?_eq_some_iff.1 h.rd.blk).1
  have keep : ∀ k, k < W.heap.size → lv.ownBlock ≠ some k → B.heap[k]? = W.heap[k]? := fun k hk hne =>
    (hg.block _ (by omega) (fun e => hne e.symm)).trans (h01.block _ hk)
  have hrb : B.heap[rb]? = W.heap[rb]? := keep rb hrbl (fun e => row_ne h.rd.blk h.lo (by decide) e.symm)
  refine ⟨o', cp', B, hr, hrb, ⟨?_, h.lt, ?_, ?_⟩, ?_⟩
  · exact Rd.lits (it := it) (lv := lv) ⟨hrb.trans h.rd.blk⟩ _
  · refine own_set ?_ h.lt _
    rw [show (ls ++ [n]).length = ls.length + 1 by simp, List.map_append]
    exact ho2
  · refine own_set ?_ h.lt _
    exact row_same h.ho (fun k cs hk hkk => keep k (Array.getElem?_eq_some_iff.1 hkk).1 (fun e => row_ne hkk h.lo (by decide) e.symm))
  · refine ⟨hg.os.trans h01.os, hg.tape.trans h01.tape, hg.output.trans h01.output, ?_, fun i hi hr hl hh => (heap_other _ _ hr).trans (keep i hi hl), fun i hi e => ?_, fun _ _ h => h⟩
    · have := hg.size; simp [World.setCell]; omega
    · rcases hat with hat | hat
      · rw [← hat]; exact e
      · rw [hat] at e; cases e; omega

/-- What has come of a hint. -/
def HintTo (base rb : Nat) (W : World) (ra : Option Addr) (rn rc : Nat) (kd id : Int) (ls hs : List Int) (it : Int) (lv hv : Value) (n : Int) (w' : World) : Prop :=
  (Lra.hint n = false ∧ w' = W) ∨ (Lra.hint n = true ∧ ∃ hv', RdO base rb w' ra rn rc kd id ls (if it + 1 ≤ 16777216 then hs ++ [n] else hs) (it + 1) lv hv' ∧ Mv rb W w' lv hv lv hv')

theorem RdO.items {base rb : Nat} {W : World} {ra : Option Addr} {rn rc : Nat} {kd id : Int} {ls hs : List Int} {it : Int} {lv hv : Value} (h : RdO base rb W ra rn rc kd id ls hs it lv hv) (n : Int) : RdO base rb (W.setCell ⟨rb, 5, none⟩ (.int .i64 n)) ra rn rc kd id ls hs n lv hv :=
  ⟨h.rd.items n, h.lt, own_set h.lo h.lt _, own_set h.ho h.lt _⟩

set_option maxRecDepth 100000 in
set_option maxHeartbeats 4000000 in
theorem takeHint46 (base rb : Nat) (W : World) (ra : Option Addr) (rn rc : Nat) (kd id : Int) (ls hs : List Int) (it : Int) (lv hv : Value) (n : Int) (h : RdO base rb W ra rn rc kd id ls hs it lv hv) (hb : base ≤ W.heap.size) (hl : hs.length ≤ 16777216) (h0 : 0 ≤ it) (h1 : it ≤ 1099511627776) :
    Calls Try.prog 46 #[.pointer (some ⟨rb, 0, none⟩), .int .i64 n] W fun e w' => e = .returned (.bool (Lra.hint n)) ∧ HintTo base rb W ra rn rc kd id ls hs it lv hv n w' := by
  have C35 := hint32 n W
  cases hn : Lra.hint n
  · rw [hn] at C35
    have HC := hid C35
    have HN := hid hn
    clear C35 hn h hb hl h0 h1
    go_enter Try.func46, Try.ntmps46
    go_wp2_with (go_at_call 32; refine HC.out.mono ?_; clear HC; rintro e W ⟨rfl, rfl⟩)
    go_ret
    exact ⟨rfl, .inl ⟨HN.out, rfl⟩⟩
  · rw [hn] at C35
    have HC := hid C35
    have HN := hid hn
    have C66 := room59 rb W ra rn rc kd id lv hv it h.rd h0 h1
    have hI := h.items (it + 1)
    obtain ⟨o, c, B, hr, hrb, hR, hM⟩ := hI.hint (by simp [World.setCell]; exact hb) hl n
    have HMV := hid ((Mv.set rb 5 W (.int .i64 (it + 1)) lv hv).trans hM)
    have HMI := hid (Mv.set rb 5 W (.int .i64 (it + 1)) lv hv)
    have HRI := hid hI
    have HR := hid hR
    have c5 : (W.setCell ⟨rb, 5, none⟩ (.int .i64 (it + 1))).cell? ⟨rb, 4, none⟩ = some hv := hI.rd.cells 4 _ rfl
    have cB : B.frozen? ⟨rb, 4, none⟩ = false := row_frozen (hrb.trans hI.rd.blk) 4
    have cB2 : B.cell? ⟨rb, 4, none⟩ = some hv := by rw [row_cell (hrb.trans hI.rd.blk) 4]; rfl
    have HAP := hid hr
    generalize hW2 : W.setCell ⟨rb, 5, none⟩ (.int .i64 (it + 1)) = W2 at *
    by_cases hit : it + 1 ≤ 16777216
    · rw [decide_eq_true hit] at C66
      have H66 := hid C66
      clear C35 hn h hl h0 h1 C66 hI hR hM hr
      have HIT := hid hit
      clear hit hb
      go_enter Try.func46, Try.ntmps46
      go_wp2_with (first | (go_at_call 32; refine HC.out.mono ?_; clear HC; rintro e W ⟨rfl, rfl⟩) | (go_at_call 59; refine H66.out.mono ?_; clear H66; rintro e W' ⟨rfl, rfl⟩) | (at_builtin; refine wpList_append_run rfl (.tmp 14) (.tmp 16) 39 39 rfl rfl rfl HAP.out ?_; clear HAP))
      go_ret
      exact ⟨rfl, .inr ⟨HN.out, _, by rw [if_pos HIT.out]; exact HR.out, HMV.out⟩⟩
    · rw [decide_eq_false hit] at C66
      have H66 := hid C66
      clear C35 hn h hl h0 h1 C66 hI hR hM hr HAP HR HMV cB cB2 hrb c5
      have HIT := hid hit
      clear hit hb
      go_enter Try.func46, Try.ntmps46
      go_wp2_with (first | (go_at_call 32; refine HC.out.mono ?_; clear HC; rintro e W ⟨rfl, rfl⟩) | (go_at_call 59; refine H66.out.mono ?_; clear H66; rintro e W' ⟨rfl, rfl⟩))
      go_ret
      exact ⟨rfl, .inr ⟨HN.out, _, by rw [if_neg (by have := HIT.out; omega)]; exact HRI.out, HMI.out⟩⟩
/-- What has come of a literal. -/
def LitTo (base rb : Nat) (W : World) (ra : Option Addr) (rn rc : Nat) (kd id : Int) (ls hs : List Int) (it : Int) (lv hv : Value) (n : Int) (w' : World) : Prop :=
  (Lra.literal n = false ∧ w' = W) ∨ (Lra.literal n = true ∧ ∃ lv', RdO base rb w' ra rn rc kd id (if it + 1 ≤ 16777216 then ls ++ [n] else ls) hs (it + 1) lv' hv ∧ Mv rb W w' lv hv lv' hv)

set_option maxRecDepth 100000 in
set_option maxHeartbeats 4000000 in
theorem takeLit45 (base rb : Nat) (W : World) (ra : Option Addr) (rn rc : Nat) (kd id : Int) (ls hs : List Int) (it : Int) (lv hv : Value) (n : Int) (h : RdO base rb W ra rn rc kd id ls hs it lv hv) (hb : base ≤ W.heap.size) (hl : ls.length ≤ 16777216) (h0 : 0 ≤ it) (h1 : it ≤ 1099511627776) :
    Calls Try.prog 45 #[.pointer (some ⟨rb, 0, none⟩), .int .i64 n] W fun e w' => e = .returned (.bool (Lra.literal n)) ∧ LitTo base rb W ra rn rc kd id ls hs it lv hv n w' := by
  have C33 := literal30 n W
  cases hn : Lra.literal n
  · rw [hn] at C33
    have HC := hid C33
    have HN := hid hn
    clear C33 hn h hb hl h0 h1
    go_enter Try.func45, Try.ntmps45
    go_wp2_with (go_at_call 30; refine HC.out.mono ?_; clear HC; rintro e W ⟨rfl, rfl⟩)
    go_ret
    exact ⟨rfl, .inl ⟨HN.out, rfl⟩⟩
  · rw [hn] at C33
    have HC := hid C33
    have HN := hid hn
    have hn1 : -1048576 ≤ n ∧ n ≤ 1048576 := by unfold Lra.literal at hn; simp at hn; omega
    have hn2 : -1048576 ≤ n := hn1.1
    have hn3 : n ≤ 1048576 := hn1.2
    clear hn1
    have C66 := room59 rb W ra rn rc kd id lv hv it h.rd h0 h1
    have hI := h.items (it + 1)
    obtain ⟨o, c, B, hr, hrb, hR, hM⟩ := hI.lit (by simp [World.setCell]; exact hb) hl n
    have HMV := hid ((Mv.set rb 5 W (.int .i64 (it + 1)) lv hv).trans hM)
    have HMI := hid (Mv.set rb 5 W (.int .i64 (it + 1)) lv hv)
    have HRI := hid hI
    have HR := hid hR
    have c5 : (W.setCell ⟨rb, 5, none⟩ (.int .i64 (it + 1))).cell? ⟨rb, 3, none⟩ = some lv := hI.rd.cells 3 _ rfl
    have cB : B.frozen? ⟨rb, 3, none⟩ = false := row_frozen (hrb.trans hI.rd.blk) 3
    have cB2 : B.cell? ⟨rb, 3, none⟩ = some lv := by rw [row_cell (hrb.trans hI.rd.blk) 3]; rfl
    have HAP := hid hr
    generalize hW2 : W.setCell ⟨rb, 5, none⟩ (.int .i64 (it + 1)) = W2 at *
    by_cases hit : it + 1 ≤ 16777216
    · rw [decide_eq_true hit] at C66
      have H66 := hid C66
      clear C33 hn h hl h0 h1 C66 hI hR hM hr
      have HIT := hid hit
      clear hit hb
      go_enter Try.func45, Try.ntmps45
      go_wp2_with (first | (go_at_call 30; refine HC.out.mono ?_; clear HC; rintro e W ⟨rfl, rfl⟩) | (go_at_call 59; refine H66.out.mono ?_; clear H66; rintro e W' ⟨rfl, rfl⟩) | (at_builtin; refine wpList_append_run rfl (.tmp 14) (.tmp 17) 41 41 rfl rfl rfl HAP.out ?_; clear HAP))
      go_ret
      exact ⟨rfl, .inr ⟨HN.out, _, by rw [if_pos HIT.out]; exact HR.out, HMV.out⟩⟩
    · rw [decide_eq_false hit] at C66
      have H66 := hid C66
      clear C33 hn h hl h0 h1 C66 hI hR hM hr HAP HR HMV cB cB2 hrb c5
      have HIT := hid hit
      clear hit hb
      go_enter Try.func45, Try.ntmps45
      go_wp2_with (first | (go_at_call 30; refine HC.out.mono ?_; clear HC; rintro e W ⟨rfl, rfl⟩) | (go_at_call 59; refine H66.out.mono ?_; clear H66; rintro e W' ⟨rfl, rfl⟩))
      go_ret
      exact ⟨rfl, .inr ⟨HN.out, _, by rw [if_neg (by have := HIT.out; omega)]; exact HRI.out, HMI.out⟩⟩

/-- What has come of a deleted clause's id. -/
def GoneTo (base rb : Nat) (W : World) (ra : Option Addr) (rn rc : Nat) (kd id : Int) (ls hs : List Int) (it : Int) (lv hv : Value) (n : Int) (w' : World) : Prop :=
  (Lra.added n = false ∧ w' = W) ∨ (Lra.added n = true ∧ ∃ hv', RdO base rb w' ra rn rc kd id ls (if it + 1 ≤ 16777216 then hs ++ [n] else hs) (it + 1) lv hv' ∧ Mv rb W w' lv hv lv hv')
theorem added_hint {n : Int} (h : Lra.added n = true) : Lra.hint n = true := by
  unfold Lra.added at h
  unfold Lra.hint
  simp at h ⊢
  omega

set_option maxRecDepth 100000 in
set_option maxHeartbeats 4000000 in
theorem takeGone48 (base rb : Nat) (W : World) (ra : Option Addr) (rn rc : Nat) (kd id : Int) (ls hs : List Int) (it : Int) (lv hv : Value) (n : Int) (h : RdO base rb W ra rn rc kd id ls hs it lv hv) (hb : base ≤ W.heap.size) (hl : hs.length ≤ 16777216) (h0 : 0 ≤ it) (h1 : it ≤ 1099511627776) :
    Calls Try.prog 48 #[.pointer (some ⟨rb, 0, none⟩), .int .i64 n] W fun e w' => e = .returned (.bool (Lra.added n)) ∧ GoneTo base rb W ra rn rc kd id ls hs it lv hv n w' := by
  have C31 := added28 n W
  have C53 := takeHint46 base rb W ra rn rc kd id ls hs it lv hv n h hb hl h0 h1
  cases hn : Lra.added n
  · rw [hn] at C31
    have HC := hid C31
    have HN := hid hn
    clear C31 C53 hn h hb hl h0 h1
    go_enter Try.func48, Try.ntmps48
    go_wp2_with (go_at_call 28; refine HC.out.mono ?_; clear HC; rintro e W ⟨rfl, rfl⟩)
    go_ret
    exact ⟨rfl, .inl ⟨HN.out, rfl⟩⟩
  · rw [hn] at C31
    rw [added_hint hn] at C53
    have HC := hid C31
    have HN := hid hn
    have HT := hid (added_hint hn)
    have HD := hid C53
    clear C31 C53 hn h hb hl h0 h1
    go_enter Try.func48, Try.ntmps48
    go_wp2_with (first | (go_at_call 28; refine HC.out.mono ?_; clear HC; rintro e W ⟨rfl, rfl⟩) | (go_at_call 46; refine HD.out.mono ?_; clear HD; rintro e W' ⟨rfl, h⟩; have HH := hid h; clear h))
    go_ret
    refine ⟨rfl, ?_⟩
    rcases HH.out with ⟨h, _⟩ | ⟨_, h⟩
    · rw [HT.out] at h; cases h
    · exact .inr ⟨HN.out, h⟩
end Go.Proofs.Ytmgeoeajnpnadaa
