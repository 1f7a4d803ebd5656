/- How often literals stand, counted: plain, and what it makes of memory. -/
import Derived.Test.YtjjanmgeogjngaaGe
import Derived.Deep.RegionWith
import Derived.Test.YtjjanmgeogjngaaGa
import Derived.Test.YtjjanmgeogjngaaGb
/- How often literals stand, counted: plain, and what it makes of memory. -/
namespace Ckr
/-- A literal counted once more, or once less. -/
def bump (b : Int) (tm : List Int) (l : Int) : List Int := (reach tm (place l)).set (place l) (tm.getD (place l) 0 + b)
def countL (b : Int) : List Int → List Int → List Int
  | tm, [] => tm
  | tm, l :: ls => countL b (bump b tm l) ls
theorem bump_len (b : Int) (tm : List Int) (l : Int) : (bump b tm l).length = max tm.length (place l + 1) := by
  unfold bump; rw [List.length_set, reach_len]
theorem bump_getD (b : Int) (tm : List Int) (l : Int) (j : Nat) : (bump b tm l).getD j 0 = tm.getD j 0 + (if j = place l then b else 0) := by
  unfold bump
  by_cases h : j = place l
  · subst h
    rw [if_pos rfl, List.getD, List.getElem?_set_self (by rw [reach_len]; omega)]; rfl
  · rw [if_neg h, List.getD, List.getElem?_set_ne (fun e => h e.symm), ← List.getD, reach_getD]; omega
theorem getD_bound (tm : List Int) (lo hi : Int) (h0 : lo ≤ 0 ∧ 0 ≤ hi) (h : ∀ x ∈ tm, lo ≤ x ∧ x ≤ hi) (j : Nat) : lo ≤ tm.getD j 0 ∧ tm.getD j 0 ≤ hi := by
  by_cases hj : j < tm.length
  · exact h _ (Lra.getD_mem tm j hj)
  · rw [List.getD, List.getElem?_eq_none (by omega)]; exact h0
theorem bound_getD (tm : List Int) (lo hi : Int) (h : ∀ j, j < tm.length → lo ≤ tm.getD j 0 ∧ tm.getD j 0 ≤ hi) : ∀ x ∈ tm, lo ≤ x ∧ x ≤ hi := by
  intro x hx
  obtain ⟨j, hj, e⟩ := List.mem_iff_getElem.1 hx
  have := h j hj
  rw [List.getD, List.getElem?_eq_getElem hj, e] at this
  exact this
theorem bump_bound (b : Int) (hb : b = 1 ∨ b = -1) (tm : List Int) (l : Int) (M : Int) (hM : 0 ≤ M) (h : ∀ x ∈ tm, -M ≤ x ∧ x ≤ M) : ∀ x ∈ bump b tm l, -(M + 1) ≤ x ∧ x ≤ M + 1 := by
  refine bound_getD _ _ _ (fun j _ => ?_)
  rw [bump_getD]
  have := getD_bound tm (-M) M (by omega) h j
  split <;> rcases hb with rfl | rfl <;> omega
theorem countL_getD (b : Int) (xs : List Int) : ∀ (tm : List Int) (j : Nat), (countL b tm xs).getD j 0 = tm.getD j 0 + b * (xs.countP (fun l => place l == j) : Nat) := by
  induction xs with
  | nil => intro tm j; simp [countL]
  | cons l ls ih =>
    intro tm j
    rw [countL, ih, bump_getD, List.countP_cons]
    by_cases h : j = place l
    · subst h
      simp only [if_pos, beq_self_eq_true, Int.natCast_add, Int.mul_add]
      simp; omega
    · have h2 : (place l == j) = false := by simpa using fun e => h e.symm
      simp [h, h2]
theorem countL_len (b : Int) (xs : List Int) (N : Nat) (hx : ∀ x ∈ xs, place x + 1 ≤ N) : ∀ tm : List Int, tm.length ≤ N → (countL b tm xs).length ≤ N := by
  induction xs with
  | nil => intro tm h; exact h
  | cons l ls ih =>
    intro tm h
    rw [countL]
    exact ih (fun x hx' => hx x (List.mem_cons_of_mem _ hx')) _ (by rw [bump_len]; have := hx l (by simp); omega)
end Ckr
namespace Go.Proofs.Ytjjanmgeogjngaa
open Go.RowKit
set_option linter.unusedVariables false

/-- Nothing is turned but the checker's own block and the block t. -/
structure Tw (cb : Nat) (t : Option Nat) (W W' : World) : Prop where
  os : W'.os = W.os
  tape : W'.tape = W.tape
  output : W'.output = W.output
  size : W.heap.size ≤ W'.heap.size
  block : ∀ g, g < W.heap.size → g ≠ cb → some g ≠ t → W'.heap[g]? = W.heap[g]?
theorem Tw.refl (cb : Nat) (t : Option Nat) (W : World) : Tw cb t W W := ⟨rfl, rfl, rfl, Nat.le_refl _, fun _ _ _ _ => rfl⟩
theorem Tw.trans {cb : Nat} {t t1 : Option Nat} {W W1 W2 : World} (h : Tw cb t W W1) (h1 : Tw cb t1 W1 W2) (hr : Nw W t t1) : Tw cb t W W2 := by
  refine ⟨h1.os.trans h.os, h1.tape.trans h.tape, h1.output.trans h.output, Nat.le_trans h.size h1.size, fun g hg hc hr' => ?_⟩
  refine (h1.block g (Nat.lt_of_lt_of_le hg h.size) hc ?_).trans (h.block g hg hc hr')
  rcases hr with rfl | ⟨q, rfl, hq⟩
  · exact hr'
  · intro e; injection e with e; omega
theorem Tw.set {cb : Nat} {t : Option Nat} {W W1 : World} (h : Tw cb t W W1) (k : Nat) (v : Value) : Tw cb t W (W1.setCell ⟨cb, k, none⟩ v) :=
  ⟨h.os, h.tape, h.output, by simp; exact h.size, fun g hg hc hr => (heap_other _ _ hc).trans (h.block g hg hc hr)⟩

/-- And the values lie where they lay. -/
structure Twv (cb : Nat) (t : Option Nat) (W W' : World) : Prop extends Tw cb t W W' where
  vb : VB W' cb = VB W cb
/-- While literals are counted: the checker's block, and the row of times. -/
def CR (n0 cb : Nat) (c0 c1 c2 c4 vv vr : Value) (t : Option Nat) (W : World) (tm : List Int) (at3 : Option Addr) (ct3 : Nat) (w : World) : Prop :=
  n0 ≤ w.heap.size ∧ w.heap[cb]? = some (.cells #[c0, c1, c2, .slice at3 tm.length ct3, c4, vv, vr] 75 (0, 0)) ∧ w.ownsRow n0 3 1 (.slice at3 tm.length ct3) tm.length (tm.map (Value.int .i64)) ∧ Tw cb t W w ∧ Nw W t (Value.slice at3 tm.length ct3).ownBlock
theorem CR.drewN {n0 cb : Nat} {c0 c1 c2 c4 vv vr : Value} {t : Option Nat} {W : World} {tm : List Int} {at3 : Option Addr} {ct3 : Nat} {w : World} (h : CR n0 cb c0 c1 c2 c4 vv vr t W tm at3 ct3 w) (q : Nat) : CR n0 cb c0 c1 c2 c4 vv vr t W tm at3 ct3 (w.drewN q) :=
  ⟨h.1, h.2.1, h.2.2.1, ⟨h.2.2.2.1.os, h.2.2.2.1.tape, h.2.2.2.1.output, h.2.2.2.1.size, h.2.2.2.1.block⟩, h.2.2.2.2⟩
theorem CR.drew {n0 cb : Nat} {c0 c1 c2 c4 vv vr : Value} {t : Option Nat} {W : World} {tm : List Int} {at3 : Option Addr} {ct3 : Nat} {w : World} (h : CR n0 cb c0 c1 c2 c4 vv vr t W tm at3 ct3 w) : CR n0 cb c0 c1 c2 c4 vv vr t W tm at3 ct3 w.drew :=
  ⟨h.1, h.2.1, h.2.2.1, ⟨h.2.2.2.1.os, h.2.2.2.1.tape, h.2.2.2.1.output, h.2.2.2.1.size, h.2.2.2.1.block⟩, h.2.2.2.2⟩
theorem cb3 {W : World} {cb : Nat} {c0 c1 c2 c3 c4 v5 v6 : Value} (h : W.heap[cb]? = some (.cells #[c0, c1, c2, c3, c4, v5, v6] 75 (0, 0))) (v : Value) : (W.setCell ⟨cb, 3, none⟩ v).heap[cb]? = some (.cells #[c0, c1, c2, v, c4, v5, v6] 75 (0, 0)) := by
  rw [heap_set_row h]; rfl
theorem cb2 {W : World} {cb : Nat} {c0 c1 c2 c3 c4 v5 v6 : Value} (h : W.heap[cb]? = some (.cells #[c0, c1, c2, c3, c4, v5, v6] 75 (0, 0))) (v : Value) : (W.setCell ⟨cb, 2, none⟩ v).heap[cb]? = some (.cells #[c0, c1, v, c3, c4, v5, v6] 75 (0, 0)) := by
  rw [heap_set_row h]; rfl

/-- Behind the call of reaching: what the walk meets. -/
theorem count_mid (n0 cb : Nat) (c0 c1 c2 c4 vv vr : Value) (t : Option Nat) (W w W2 : World) (tm : List Int) (at3 : Option Addr) (ct3 : Nat) (b l : Int) (v2 : Value)
    (hC : CR n0 cb c0 c1 c2 c4 vv vr t W tm at3 ct3 w) (hR : Reached 3 .i64 n0 tm (Ckr.place l) (.slice at3 tm.length ct3) w (.returned v2) W2) :
    ∃ g m k W3, v2 = .slice (some ⟨g, 0, none⟩) m k ∧ Ckr.place l < m ∧ W2.cell? ⟨cb, 3, none⟩ = some (.slice at3 tm.length ct3) ∧ W2.frozen? ⟨cb, 3, none⟩ = false ∧ W2.setCell ⟨cb, 3, none⟩ (.slice (some ⟨g, 0, none⟩) m k) = W3 ∧
      W3.cell? ⟨cb, 3, none⟩ = some (.slice (some ⟨g, 0, none⟩) m k) ∧ W3.cell? ⟨g, Ckr.place l, none⟩ = some (.int .i64 (tm.getD (Ckr.place l) 0)) ∧ W3.frozen? ⟨g, Ckr.place l, none⟩ = false ∧
      CR n0 cb c0 c1 c2 c4 vv vr t W (Ckr.bump b tm l) (some ⟨g, 0, none⟩) k (W3.setCell ⟨g, Ckr.place l, none⟩ (.int .i64 (tm.getD (Ckr.place l) 0 + b))) := by
  obtain ⟨v, e, ho, hg, hbk⟩ := hR
  cases e
  obtain ⟨hn0, hcb, how, hT, hN⟩ := hC
  have hrl := Ckr.reach_len tm (Ckr.place l)
  have hbl := Ckr.bump_len b tm l
  obtain ⟨g, k, cur, rfl, hgn, hgg, hmc, hcm, hcs, htk⟩ := own_some ho (by omega)
  have hbc : some cb ≠ (Value.slice at3 tm.length ct3).ownBlock := own_type how hcb (by decide)
  have hcl : cb < w.heap.size := (Array.getElem?_eq_some_iff.1 hcb).1
  have h2 : W2.heap[cb]? = some (.cells #[c0, c1, c2, .slice at3 tm.length ct3, c4, vv, vr] 75 (0, 0)) := (hg.block cb hcl hbc).trans hcb
  have hgc : g ≠ cb := by intro e; rw [e, h2] at hgg; injection hgg with e1; injection e1 with _ e2; cases e2
  have h3 := cb3 h2 (.slice (some ⟨g, 0, none⟩) (Ckr.reach tm (Ckr.place l)).length k)
  have hg3 : (W2.setCell ⟨cb, 3, none⟩ (.slice (some ⟨g, 0, none⟩) (Ckr.reach tm (Ckr.place l)).length k)).heap[g]? = some (.cells cur 3 (0, 0)) := (heap_other _ _ hgc).trans hgg
  have hT2 : Tw cb t W W2 := by
    refine hT.trans (t1 := (Value.slice at3 tm.length ct3).ownBlock) ⟨hg.os, hg.tape, hg.output, hg.size, fun q hq _ hne => hg.block q hq hne⟩ hN
  have hN2 : Nw W t (some g) := by
    rcases hbk with h | ⟨q, h, hq⟩
    · have : (some g : Option Nat) = (Value.slice at3 tm.length ct3).ownBlock := h
      rw [this]; exact hN
    · have h' : some g = some q := h
      cases h'
      exact .inr ⟨g, rfl, Nat.le_trans hT.size hq⟩
  have hrow : (Ckr.reach tm (Ckr.place l)).length = (Ckr.bump b tm l).length := by omega
  refine ⟨g, (Ckr.reach tm (Ckr.place l)).length, k, _, rfl, by omega, row_cell h2 3, row_frozen h2 3, rfl, row_cell h3 3, ?_, row_frozen hg3 _, ?_⟩
  · rw [row_cell hg3, ← Array.getElem?_toList]
    have e2 : (cur.toList.take (Ckr.reach tm (Ckr.place l)).length)[Ckr.place l]? = cur.toList[Ckr.place l]? := List.getElem?_take_of_lt (by omega)
    rw [← e2, htk, ← Ckr.reach_getD tm (Ckr.place l), List.getElem?_map, List.getD]
    rw [List.getElem?_eq_getElem (by omega)]; rfl
  · refine ⟨?_, ?_, ?_, ?_, ?_⟩
    · simp; have := hg.size; omega
    · rw [heap_other _ _ (fun e => hgc e.symm), ← hrow]; exact h3
    · rw [← hrow]
      refine own_mk hgn (heap_set_row hg3 _) hmc hcm (by simp [hcs]) ?_
      exact setB_take cur _ .i64 _ _ _ htk
    · refine ⟨hT2.os, hT2.tape, hT2.output, by simp; exact hT2.size, fun q hq hc hr => ?_⟩
      have hne : q ≠ g := by
        rcases hN2 with h | ⟨q', h, hq'⟩
        · rw [← h] at hr; exact fun e => hr (by rw [e])
        · injection h with h; omega
      rw [heap_other _ _ hne, heap_other _ _ hc]
      exact hT2.block q hq hc hr
    · exact hN2
end Go.Proofs.Ytjjanmgeogjngaa

/- How often literals stand, counted: the call. -/
namespace Go.Proofs.Ytjjanmgeogjngaa
open Go.RowKit
set_option linter.unusedVariables false

def CountOut (n0 cb : Nat) (c0 c1 c4 : Value) (L : Int) (W : World) (T : List Int) (r t : Option Nat) (D : List Int) (e : Ending) (W' : World) : Prop :=
  e = .returned (.tuple #[]) ∧ ∃ at3 ct3, Asg n0 cb c0 c1 (.int .i64 L) (.slice at3 D.length ct3) c4 W' T r ∧ W'.ownsRow n0 3 1 (.slice at3 D.length ct3) D.length (D.map (Value.int .i64)) ∧ Twv cb t W W' ∧ Nw W t (Value.slice at3 D.length ct3).ownBlock
theorem place_lit (l : Int) (h1 : -1048576 ≤ l) (h2 : l ≤ 1048576) : Ckr.place l ≤ 2097153 := by
  unfold Ckr.place Cnf.vr; split <;> omega
set_option maxRecDepth 100000 in
set_option maxHeartbeats 4000000 in
theorem count57 (n0 cb : Nat) (c0 c1 c4 : Value) (L b : Int) (tm : List Int) (at3 : Option Addr) (ct3 : Nat) (a : Option Addr) (n c : Nat) (xs : List Int) (W : World) (T : List Int) (r : Option Nat)
    (hA : Asg n0 cb c0 c1 (.int .i64 L) (.slice at3 tm.length ct3) c4 W T r) (ho : W.ownsRow n0 3 1 (.slice at3 tm.length ct3) tm.length (tm.map (Value.int .i64)))
    (hn : xs.length = n) (hb : n ≤ 16777216) (hx : Lits W a xs) (hsf : ∀ g off, a = some ⟨g, off, none⟩ → xs ≠ [] → g ≠ cb ∧ some g ≠ (Value.slice at3 tm.length ct3).ownBlock)
    (hl : ∀ x ∈ xs, -1048576 ≤ x ∧ x ≤ 1048576) (hby : b = 1 ∨ b = -1) (hL : -1099511627776 ≤ L ∧ L ≤ 1099511627776) (htl : tm.length ≤ 4294967297) (htb : ∀ x ∈ tm, -1099511627776 ≤ x ∧ x ≤ 1099511627776) :
    Calls Try.prog 57 #[.pointer (some ⟨cb, 0, none⟩), .slice a n c, .int .i64 b] W fun e W' => CountOut n0 cb c0 c1 c4 (L + b * n) W T r (Value.slice at3 tm.length ct3).ownBlock (Ckr.countL b tm xs) e W' := by
  obtain ⟨vals, vv, vr, hr, hcb, hsz, hc, hov, hot, hV⟩ := hA
  obtain ⟨M, hM⟩ : ∃ M, b * (n : Int) = M := ⟨_, rfl⟩
  have hMb : -16777216 ≤ M ∧ M ≤ 16777216 := by rcases hby with rfl | rfl <;> omega
  rw [hM]
  have w1 : wrap64 M = M := by unfold wrap64; omega
  have w2 : wrap64 (L + M) = L + M := by unfold wrap64; omega
  have x2 : W.cell? ⟨cb, 2, none⟩ = some (.int .i64 L) := row_cell hc 2
  have f2 := row_frozen hc 2
  have h0 := cb2 hc (.int .i64 (L + M))
  have hT0 := (Tw.refl cb (Value.slice at3 tm.length ct3).ownBlock W).set 2 (.int .i64 (L + M))
  have ho0 : (W.setCell ⟨cb, 2, none⟩ (.int .i64 (L + M))).ownsRow n0 3 1 (.slice at3 tm.length ct3) tm.length (tm.map (Value.int .i64)) := own_keep ho (fun q cs hq hh => heap_other _ _ (by intro e; rw [e, hc] at hh; injection hh with e1; injection e1 with _ e2; cases e2))
  have hs0 : n0 ≤ (W.setCell ⟨cb, 2, none⟩ (.int .i64 (L + M))).heap.size := by simp; exact hsz
  generalize hW0 : W.setCell ⟨cb, 2, none⟩ (.int .i64 (L + M)) = W0 at h0 hT0 ho0 hs0
  have HC0 : Hid (CR n0 cb c0 c1 (.int .i64 (L + M)) c4 vv vr (Value.slice at3 tm.length ct3).ownBlock W tm at3 ct3 W0) := ⟨hs0, h0, ho0, hT0, Nw.refl _ _⟩
  have HX := hid hx
  have HSF := hid hsf
  have HN := hid hn
  have HL := hid hl
  have HBY := hid hby
  have HTB := hid htb
  have HTL := hid htl
  have HEnd : Hid (∀ D at' ct' w, CR n0 cb c0 c1 (.int .i64 (L + M)) c4 vv vr (Value.slice at3 tm.length ct3).ownBlock W D at' ct' w → CountOut n0 cb c0 c1 c4 (L + M) W T r (Value.slice at3 tm.length ct3).ownBlock D (.returned (.tuple #[])) w) := by
    intro D at' ct' w hC
    obtain ⟨q1, q2, q3, q4, q5⟩ := hC
    refine ⟨rfl, at', ct', ⟨vals, vv, vr, hr, hcb, q1, q2, own_keep hov (fun q cs hq hh => q4.block q (Array.getElem?_eq_some_iff.1 hh).1 ?_ ?_), own_keep hot (fun q cs hq hh => q4.block q (Array.getElem?_eq_some_iff.1 hh).1 ?_ ?_), hV⟩, q3, ⟨q4, by rw [VB.of q2, VB.of hc]⟩, q5⟩
    · intro e; rw [e, hc] at hh; injection hh with e1; injection e1 with _ e2; cases e2
    · exact own_type ho hh (by decide)
    · intro e; rw [e, hc] at hh; injection hh with e1; injection e1 with _ e2; cases e2
    · exact own_type ho hh (by decide)
  obtain ⟨D, hD⟩ : ∃ D, Ckr.countL b tm xs = D := ⟨_, rfl⟩
  have HD0 := hid hD
  rw [hD]
  generalize htt : (Value.slice at3 tm.length ct3).ownBlock = t at *
  generalize hc2 : L + M = LM at *
  clear hr hcb hsz hc hov hot hV ho hx hsf hl hby hL htl htb h0 hT0 ho0 hs0 hMb hD hn
  go_enter Try.func57, Try.ntmps57
  go_wp2
  rw [w1, w2]
  go_loopw [21] (fun i wr => ∃ (k : Nat) (tm1 : List Int) (at1 : Option Addr) (ct1 : Nat), i = .int .i64 k ∧ k ≤ n ∧ Hid (Ckr.countL b tm1 (xs.drop k) = D) ∧ Hid (CR n0 cb c0 c1 (.int .i64 LM) c4 vv vr t W tm1 at1 ct1 wr) ∧ Hid (tm1.length ≤ 4294967297 ∧ ∀ x ∈ tm1, -(1099511627776 + (k : Int)) ≤ x ∧ x ≤ 1099511627776 + k)) (fun i _ => n - (intOf i).toNat)
  case atStart => exact ⟨0, tm, at3, ct3, rfl, Nat.zero_le _, hid (by rw [List.drop_zero]; exact HD0.out), HC0, hid ⟨HTL.out, fun x hx => by have := HTB.out x hx; omega⟩⟩
  case round =>
    clear HC0 HD0 HTB HTL x2 f2 hW0
    obtain ⟨k, tm1, at1, ct1, rfl, hk, HD, HC, HB⟩ := hrel
    by_cases hlt : k < n
    · have hlt' : (k : Int) < n := by omega
      have hxw : Lits wr a xs := by
        obtain ⟨⟨h1, h2⟩, h3⟩ := And.intro HX.out HSF.out
        refine ⟨h1, ?_⟩
        rcases h2 with h2 | ⟨g, off, e, hl, hc⟩
        · exact .inl h2
        · have hne : xs ≠ [] := by intro e; have := HN.out; rw [e] at this; simp at this; omega
          obtain ⟨p1, p2⟩ := h3 g off e hne
          refine .inr ⟨g, off, e, Nat.lt_of_lt_of_le hl HC.out.2.2.2.1.size, fun j hj => ?_⟩
          exact (World.cell?_of_block (a := ⟨g, off + j, none⟩) (HC.out.2.2.2.1.block g hl p1 p2)).trans (hc j hj)
      obtain ⟨bk, off, rfl, _, hc, h1, h2⟩ := Row.at hxw (j := k) (by rw [HN.out]; exact hlt)
      have HCd := hid (Cnf.drop_cons xs k (by rw [HN.out]; exact hlt))
      obtain ⟨hl1, hl2⟩ := HL.out (xs.getD k 0) (Lra.getD_mem xs k (by rw [HN.out]; exact hlt))
      generalize xs.getD k 0 = x at hc HCd h1 h2 hl1 hl2
      have HU := hid (show Ckr.countL b (Ckr.bump b tm1 x) (xs.drop (k + 1)) = D by have := HD.out; rwa [HCd.out, Ckr.countL] at this)
      have C72 := hid (fun w => show Calls Try.prog 72 #[.int .i32 x] w fun e w' => e = .returned (.int .i64 (Ckr.place x)) ∧ w' = w by have h := place72 x w h1 h2; rwa [Ckr.place_eq] at h)
      have hpl := place_lit x hl1 hl2
      have y3 : wr.cell? ⟨cb, 3, none⟩ = some (.slice at1 tm1.length ct1) := row_cell HC.out.2.1 3
      have C71 := hid (fun w (hC : CR n0 cb c0 c1 (.int .i64 LM) c4 vv vr t W tm1 at1 ct1 w) => reaching71 n0 tm1.length (Ckr.place x) (.slice at1 tm1.length ct1) tm1 w rfl hC.2.2.1 (by omega) HB.out.1 hC.1)
      have HM := hid (fun w W2 v2 hC hR => count_mid n0 cb c0 c1 (.int .i64 LM) c4 vv vr t W w W2 tm1 at1 ct1 b x v2 hC hR)
      have HB2 : Hid ((Ckr.bump b tm1 x).length ≤ 4294967297 ∧ ∀ y ∈ Ckr.bump b tm1 x, -(1099511627776 + ((k + 1 : Nat) : Int)) ≤ y ∧ y ≤ 1099511627776 + ((k + 1 : Nat) : Int)) := by
        refine ⟨by rw [Ckr.bump_len]; have := HB.out.1; omega, fun y hy => ?_⟩
        have := Ckr.bump_bound b HBY.out tm1 x (1099511627776 + k) (by omega) HB.out.2 y hy
        omega
      have hob := Ckr.getD_bound tm1 (-(1099511627776 + (k : Int))) (1099511627776 + k) (by omega) HB.out.2 (Ckr.place x)
      have w3 : wrap64 (tm1.getD (Ckr.place x) 0 + b) = tm1.getD (Ckr.place x) 0 + b := by
        unfold wrap64; rcases HBY.out with rfl | rfl <;> omega
      have w4 : IntKind.i64.wrap (tm1.getD (Ckr.place x) 0 + b) = tm1.getD (Ckr.place x) 0 + b := by
        rw [IntKind.wrap_i64]; rcases HBY.out with rfl | rfl <;> omega
      generalize tm1.getD (Ckr.place x) 0 = old at HM hob w3 w4
      generalize Ckr.place x = p at C72 C71 HM hpl
      generalize tm1.length = n1 at y3 C71 HM
      clear hxw HD HCd hob HB
      go_wp2
      go_region_with (first
        | (go_at_call 72; refine (C72.out _).mono ?_; rintro e W7 ⟨rfl, rfl⟩)
        | (go_at_call 71; refine (C71.out _ HC.out.drew).mono ?_; rintro e W2 hR
           obtain ⟨v2, rfl, hR2⟩ := hR
           obtain ⟨g, m, kk, W3, rfl, pm, a3, f3, s3, b3, bg, fg, out⟩ := HM.out _ W2 v2 HC.out.drew ⟨v2, rfl, hR2⟩
           have pm' : (p : Int) < m := by omega
           have OUT := hid out
           clear hR2 out pm))
      all_goals
        go_wp2
        go_region_with (go_at_call 72; refine (C72.out _).mono ?_; rintro e W7 ⟨rfl, rfl⟩)
        all_goals
          go_wp2
          go_roundw
          case rel => exact ⟨k + 1, Ckr.bump b tm1 x, some ⟨g, 0, none⟩, kk, by go_num, by omega, HU, hid (OUT.out.drewN _), HB2⟩
          case measure => simp [intOf]; omega
    · have hge : ¬ (k : Int) < n := by omega
      have HE := hid (show tm1 = D by have := HD.out; rw [List.drop_of_length_le (by rw [HN.out]; omega)] at this; exact this)
      go_wp2
      go_end0
      have h := HEnd.out tm1 at1 ct1 wr HC.out
      rw [HE.out] at h
      exact h
end Go.Proofs.Ytjjanmgeogjngaa

/- A clause in memory of its own: slices.Clone. -/
namespace Go.Proofs.Ytjjanmgeogjngaa
open Go.RowKit
set_option linter.unusedVariables false

def CloneOut (w : World) (xs : List Int) (n : Nat) (e : Ending) (w' : World) : Prop :=
  ∃ o k, e = .returned (.slice o n k) ∧ w'.ownsRow w.heap.size 40 1 (.slice o n k) n (xs.map (Value.int .i32)) ∧ Below w.heap.size w w'
set_option maxRecDepth 100000 in
set_option maxHeartbeats 2000000 in
theorem clone55 (a : Option Addr) (n c : Nat) (xs : List Int) (w : World) (hn : xs.length = n) (hb : n ≤ 16777216) (hx : Lits w a xs) :
    Calls Try.prog 55 #[.slice a n c] w fun e w' => CloneOut w xs n e w' := by
  cases a with
  | none =>
    have hx0 : xs = [] := by
      rcases hx.2 with h | ⟨b, off, e, _⟩
      · exact h
      · cases e
    subst hx0
    obtain rfl : n = 0 := by simpa using hn.symm
    have HF : Hid (CloneOut w [] 0 (.returned (.slice none 0 0)) w) := ⟨none, 0, rfl, World.ownsRow_nil _ _ _ _, Below.refl _ _⟩
    clear hx hn
    have hnil : ∀ W, (binOp .eql 39 (.slice none 0 c) (.slice none 0 0)).run Try.prog W = .ok (.bool true) W := fun W => by kernel_rfl
    go_enter Try.func55, Try.ntmps55
    go_wp2
    go_ret
    exact HF.out
  | some ad =>
    obtain ⟨i0, hi, hz⟩ := Option.map_eq_some_iff.1 info44
    simp only [Prod.mk.injEq] at hz
    have hB1 := below_box w (.cells #[] 40)
    have hx1 : (w.alloc (.cells #[] 40)).heap[w.heap.size]? = some (.cells #[] 40 (0, 0)) := heap_alloc_new _ _
    have hl1 := hx.below hB1
    have hs1 : w.heap.size ≤ (w.alloc (.cells #[] 40)).heap.size := by simp
    generalize hW1 : w.alloc (.cells #[] 40) = W1 at hB1 hx1 hl1 hs1
    have ho1 : W1.ownsRow w.heap.size 40 1 (.slice (some ⟨w.heap.size, 0, none⟩) 0 0) 0 [] := ⟨rfl, .inr ⟨w.heap.size, 0, #[], rfl, Nat.le_refl _, hx1, Nat.le_refl _, Nat.zero_le _, rfl, rfl⟩⟩
    obtain ⟨v2, B, hr, ho2, hgb, _, _⟩ := run_append_own_at (P := Try.prog) W1 w.heap.size 39 39 40 i0 _ 1 4 Try.underlying39 hi hz.1 hz.2.1 hz.2.2 rfl (by decide) (.slice (some ⟨w.heap.size, 0, none⟩) 0 0) 0 [] ho1 ad n c (xs.map (Value.int .i32)) (by simp [hn]) (fun j u hu => by
      rw [List.getElem?_map] at hu
      obtain ⟨x, hx', rfl⟩ := Option.map_eq_some_iff.1 hu
      have hj : j < xs.length := by
        rcases Nat.lt_or_ge j xs.length with h' | h'
        · exact h'
        · rw [List.getElem?_eq_none h'] at hx'; cases hx'
      obtain ⟨b, off, e, _, hc, _, _⟩ := Row.at hl1 hj
      cases e
      rw [show (⟨b, off, none⟩ : Addr).add j = ⟨b, off + j, none⟩ by simp [Addr.add], hc]
      simp [List.getD, hx']) (one_ints _ _) (by simp [maxLen]; omega) (by omega) (by omega)
    obtain ⟨o, k, rfl⟩ := own_slc ho2
    rw [Nat.zero_add] at hr ho2
    rw [List.nil_append] at ho2
    have HR := hid hr
    have HF : Hid (CloneOut w xs n (.returned (.slice o n k)) B) := ⟨o, k, rfl, ho2, by
      refine hB1.trans ?_
      exact ⟨hgb.os, hgb.tape, hgb.output, hgb.size, fun q hq => hgb.block q (by omega) (by show some q ≠ some w.heap.size; intro e; injection e with e; omega)⟩⟩
    clear hi hz hB1 hx1 hl1 hs1 ho1 hr ho2 hgb hx hn
    have hnil : ∀ W, (binOp .eql 39 (.slice (some ad) n c) (.slice none 0 0)).run Try.prog W = .ok (.bool false) W := fun W => by kernel_rfl
    go_enter Try.func55, Try.ntmps55
    go_wp2_with (at_builtin; refine wpList_append_run rfl (.tmp 5) (.tmp 6) 39 39 rfl rfl rfl HR.out ?_)
    go_ret
    exact HF.out
end Go.Proofs.Ytjjanmgeogjngaa

/- The checker between two calls: plain, and in memory. -/
namespace Ckr
/-- The clause under an id. -/
def look (C : List (Int × List Int)) (id : Int) : Option (List Int) := (C.find? (fun p => p.1 == id)).map (·.2)
/-- All literals of clauses. -/
def all (C : List (Int × List Int)) : List Int := C.flatMap (·.2)
def drop1 (C : List (Int × List Int)) (id : Int) : List (Int × List Int) := C.filter (fun p => p.1 != id)
theorem look_mem {C : List (Int × List Int)} {id : Int} {xs : List Int} (h : look C id = some xs) : (id, xs) ∈ C := by
  obtain ⟨p, hp, rfl⟩ := Option.map_eq_some_iff.1 h
  have h1 := List.mem_of_find?_eq_some hp
  have h2 : p.1 = id := by simpa using List.find?_some hp
  rw [← h2]; exact h1
theorem look_none {C : List (Int × List Int)} {id : Int} : look C id = none ↔ ∀ p ∈ C, p.1 ≠ id := by
  unfold look; simp
theorem look_of_mem {C : List (Int × List Int)} (hs : C.Pairwise (fun p q => p.1 < q.1)) {id : Int} {xs : List Int} (h : (id, xs) ∈ C) : look C id = some xs := by
  induction C with
  | nil => cases h
  | cons p C ih =>
    have hp := List.pairwise_cons.1 hs
    unfold look
    rcases List.mem_cons.1 h with h' | h'
    · rw [← h']; simp
    · have := hp.1 _ h'
      simp only at this
      rw [List.find?_cons_of_neg (by simp; omega)]
      exact ih hp.2 h'
theorem look_snoc {C : List (Int × List Int)} {id : Int} (xs : List Int) (h : ∀ p ∈ C, p.1 ≠ id) (k : Int) : look (C ++ [(id, xs)]) k = if k = id then some xs else look C k := by
  unfold look
  rw [List.find?_append]
  by_cases e : k = id
  · subst e
    have : C.find? (fun p => p.1 == k) = none := by simpa using h
    rw [this]; simp
  · rw [if_neg e]
    have : ([(id, xs)] : List (Int × List Int)).find? (fun p => p.1 == k) = none := by simp; omega
    rw [this]; simp
theorem look_drop1 (C : List (Int × List Int)) (id k : Int) : look (drop1 C id) k = if k = id then none else look C k := by
  by_cases e : k = id
  · subst e
    rw [if_pos rfl, look_none]
    intro p hp
    simpa using (List.mem_filter.1 hp).2
  · rw [if_neg e]
    unfold look drop1
    congr 1
    induction C with
    | nil => rfl
    | cons p C ih =>
      by_cases hp : p.1 = id
      · rw [List.filter_cons_of_neg (by simpa using hp), ih, List.find?_cons_of_neg (by simp [hp]; omega)]
      · rw [List.filter_cons_of_pos (by simpa using hp)]
        by_cases hk : p.1 = k
        · rw [List.find?_cons_of_pos (by simpa using hk), List.find?_cons_of_pos (by simpa using hk)]
        · rw [List.find?_cons_of_neg (by simpa using hk), List.find?_cons_of_neg (by simpa using hk), ih]
theorem drop1_none {C : List (Int × List Int)} {id : Int} (h : ∀ p ∈ C, p.1 ≠ id) : drop1 C id = C := by
  unfold drop1; rw [List.filter_eq_self]; simpa using h
theorem all_drop1 {C : List (Int × List Int)} (hs : C.Pairwise (fun p q => p.1 < q.1)) {id : Int} {xs : List Int} (h : look C id = some xs) : (all C).Perm (xs ++ all (drop1 C id)) := by
  induction C with
  | nil => cases h
  | cons p C ih =>
    have hp := List.pairwise_cons.1 hs
    by_cases e : p.1 = id
    · have h2 : look (p :: C) id = some p.2 := by unfold look; rw [List.find?_cons_of_pos (by simpa using e)]; rfl
      rw [h2] at h; cases h
      have h3 : drop1 (p :: C) id = C := by
        unfold drop1
        rw [List.filter_cons_of_neg (by simpa using e)]
        exact drop1_none (fun q hq => by have := hp.1 q hq; omega)
      rw [h3]; exact List.Perm.refl _
    · have h2 : look (p :: C) id = look C id := by unfold look; rw [List.find?_cons_of_neg (by simpa using e)]
      rw [h2] at h
      have h3 : drop1 (p :: C) id = p :: drop1 C id := by unfold drop1; rw [List.filter_cons_of_pos (by simpa using e)]
      rw [h3]
      show (p.2 ++ all C).Perm (xs ++ (p.2 ++ all (drop1 C id)))
      refine ((ih hp.2 h).append_left p.2).trans ?_
      rw [← List.append_assoc, ← List.append_assoc]
      exact List.perm_append_comm.append_right _
theorem all_snoc (C : List (Int × List Int)) (id : Int) (xs : List Int) : all (C ++ [(id, xs)]) = all C ++ xs := by simp [all]
theorem mem_all {C : List (Int × List Int)} {p : Int × List Int} (h : p ∈ C) : ∀ x ∈ p.2, x ∈ all C := fun _ hx => List.mem_flatMap.2 ⟨p, h, hx⟩
theorem len_all {C : List (Int × List Int)} {p : Int × List Int} (h : p ∈ C) : p.2.length ≤ (all C).length := by
  induction C with
  | nil => cases h
  | cons q C ih =>
    show _ ≤ (q.2 ++ all C).length
    rw [List.length_append]
    rcases List.mem_cons.1 h with rfl | h
    · omega
    · have := ih h; omega
/-- Clauses that may stand. -/
structure Good (C : List (Int × List Int)) (last : Int) : Prop where
  sorted : C.Pairwise (fun p q => p.1 < q.1)
  ids : ∀ p ∈ C, 1 ≤ p.1 ∧ p.1 ≤ last
  last_ : 0 ≤ last ∧ last ≤ 4611686018427387903
  lits : ∀ x ∈ all C, x ≠ 0 ∧ -1048576 ≤ x ∧ x ≤ 1048576
  few : (all C).length ≤ 16777216
theorem Good.snoc {C : List (Int × List Int)} {last : Int} (h : Good C last) (id : Int) (xs : List Int) (hi : last < id) (hm : id ≤ 4611686018427387903) (hx : ∀ x ∈ xs, x ≠ 0 ∧ -1048576 ≤ x ∧ x ≤ 1048576) (hf : (all C).length + xs.length ≤ 16777216) : Good (C ++ [(id, xs)]) id := by
  refine ⟨?_, ?_, ⟨by have := h.last_; omega, hm⟩, ?_, ?_⟩
  · rw [List.pairwise_append]
    refine ⟨h.sorted, by simp, fun p hp q hq => ?_⟩
    rw [List.mem_singleton.1 hq]
    have := h.ids p hp
    simp only; omega
  · intro p hp
    rcases List.mem_append.1 hp with hp | hp
    · have := h.ids p hp; omega
    · rw [List.mem_singleton.1 hp]; have := h.last_; simp only; omega
  · rw [all_snoc]
    intro x hx'
    rcases List.mem_append.1 hx' with hx' | hx'
    · exact h.lits x hx'
    · exact hx x hx'
  · rw [all_snoc, List.length_append]; exact hf
theorem Good.drop1 {C : List (Int × List Int)} {last : Int} (h : Good C last) (id : Int) : Good (drop1 C id) last := by
  have hsub : (Ckr.drop1 C id).Sublist C := List.filter_sublist
  refine ⟨h.sorted.sublist hsub, fun p hp => h.ids p (hsub.subset hp), h.last_, fun x hx => ?_, ?_⟩
  · obtain ⟨p, hp, hx⟩ := List.mem_flatMap.1 hx
    exact h.lits x (mem_all (hsub.subset hp) x hx)
  · cases e : look C id with
    | none => rw [drop1_none (look_none.1 e)]; exact h.few
    | some xs => have := (all_drop1 h.sorted e).length_eq; rw [List.length_append] at this; have := h.few; omega
/-- Times that say how often literals stand. -/
structure Tm (tm ls : List Int) : Prop where
  len : tm.length ≤ 2097154
  at_ : ∀ j, tm.getD j 0 = ((ls.countP (fun l => place l == j) : Nat) : Int)
theorem place_lit (l : Int) (h1 : -1048576 ≤ l) (h2 : l ≤ 1048576) : place l ≤ 2097153 := by
  unfold place Cnf.vr; split <;> omega
theorem Tm.bound {tm ls : List Int} (h : Tm tm ls) (hl : ls.length ≤ 16777216) : ∀ x ∈ tm, 0 ≤ x ∧ x ≤ 16777216 := by
  refine bound_getD _ _ _ (fun j _ => ?_)
  rw [h.at_]
  have := List.countP_le_length (p := fun l => place l == j) (l := ls)
  omega
theorem Tm.plus {tm ls : List Int} (h : Tm tm ls) (xs : List Int) (hx : ∀ x ∈ xs, -1048576 ≤ x ∧ x ≤ 1048576) : Tm (countL 1 tm xs) (ls ++ xs) := by
  refine ⟨countL_len 1 xs 2097154 (fun x hx' => by have := place_lit x (hx x hx').1 (hx x hx').2; omega) tm h.len, fun j => ?_⟩
  rw [countL_getD, h.at_, List.countP_append]; omega
theorem Tm.minus {tm ls xs rest : List Int} (h : Tm tm ls) (hp : ls.Perm (xs ++ rest)) (hx : ∀ x ∈ xs, -1048576 ≤ x ∧ x ≤ 1048576) : Tm (countL (-1) tm xs) rest := by
  refine ⟨countL_len (-1) xs 2097154 (fun x hx' => by have := place_lit x (hx x hx').1 (hx x hx').2; omega) tm h.len, fun j => ?_⟩
  rw [countL_getD, h.at_, hp.countP_eq, List.countP_append]; omega
end Ckr
namespace Go.Proofs.Ytjjanmgeogjngaa
open Go.RowKit Go.Maps
set_option linter.unusedVariables false

theorem Mp.uniq {W : World} {bm k k' : Nat} {f f' : Int → Option Value} (h : Mp W bm k f) (h' : Mp W bm k' f') {id : Int} (hi : I64 id) : f id = f' id := by
  have a := h.look hi
  rw [h'.look hi] at a
  injection a with a _
  injection a with a
  have a1 := congrArg (·[0]?) a
  have a2 := congrArg (·[1]?) a
  simp only [List.getElem?_toArray, List.getElem?_cons_zero, List.getElem?_cons_succ, Option.some.injEq, Value.bool.injEq] at a1 a2
  cases e : f id with
  | none => rw [e] at a2; cases e' : f' id with
    | none => rfl
    | some v => rw [e'] at a2; cases a2
  | some v => rw [e] at a1 a2; cases e' : f' id with
    | none => rw [e'] at a2; cases a2
    | some v' => rw [e'] at a1; simp only [Option.getD_some] at a1; rw [a1]
/-- Block g is a row that the map holds. -/
def Rs (bm : Nat) (W : World) (g : Nat) : Prop := ∃ k f id v, I64 id ∧ Mp W bm k f ∧ f id = some v ∧ v.ownBlock = some g
theorem Rs.same {bm : Nat} {W W' : World} (h : W'.heap[bm]? = W.heap[bm]?) {g : Nat} (hg : Rs bm W' g) : Rs bm W g := by
  obtain ⟨k, f, id, v, hi, hm, hf, hv⟩ := hg
  exact ⟨k, f, id, v, hi, hm.same h.symm, hf, hv⟩
theorem Rs.put {bm k k0 : Nat} {W W' : World} {f : Int → Option Value} {id0 : Int} {o : Option Value} (h : Mp W bm k0 f) (h' : Mp W' bm k (upd f id0 o)) {g : Nat} (hg : Rs bm W' g) : Rs bm W g ∨ ∃ v, o = some v ∧ v.ownBlock = some g := by
  obtain ⟨k1, f1, id, v, hi, hm, hf, hv⟩ := hg
  rw [hm.uniq h' hi] at hf
  unfold upd at hf
  by_cases e : id = id0
  · rw [if_pos e] at hf; exact .inr ⟨v, hf, hv⟩
  · rw [if_neg e] at hf; exact .inl ⟨k0, f, id, v, hi, h, hf, hv⟩
/-- Nothing is turned but the checker's own blocks. -/
structure Fp (n0 cb bm : Nat) (t r : Option Nat) (W W' : World) : Prop where
  os : W'.os = W.os
  tape : W'.tape = W.tape
  output : W'.output = W.output
  size : W.heap.size ≤ W'.heap.size
  block : ∀ g, g < W.heap.size → g ≠ cb → g ≠ bm → some g ≠ t → some g ≠ r → (n0 ≤ g → ∀ cs fr, W.heap[g]? ≠ some (.cells cs 119 fr)) → W'.heap[g]? = W.heap[g]?
  fine : cb < W.heap.size → ∀ g, g < W.heap.size → g ≠ cb → g ≠ bm → some g ≠ t → some g ≠ r → some g ≠ VB W cb → W'.heap[g]? = W.heap[g]?
  vb : cb < W.heap.size → Nw W (VB W cb) (VB W' cb)
  mp : bm < W.heap.size → ∀ g, Rs bm W' g → Rs bm W g ∨ W.heap.size ≤ g
theorem Fp.refl (n0 cb bm : Nat) (t r : Option Nat) (W : World) : Fp n0 cb bm t r W W := ⟨rfl, rfl, rfl, Nat.le_refl _, fun _ _ _ _ _ _ _ => rfl, fun _ _ _ _ _ _ _ _ => rfl, fun _ => .inl rfl, fun _ _ h => .inl h⟩
theorem Fp.trans {n0 cb bm : Nat} {t t1 r r1 : Option Nat} {W W1 W2 : World} (h : Fp n0 cb bm t r W W1) (h1 : Fp n0 cb bm t1 r1 W1 W2) (ht : Nw W t t1) (hr : Nw W r r1) : Fp n0 cb bm t r W W2 := by
  refine ⟨h1.os.trans h.os, h1.tape.trans h.tape, h1.output.trans h.output, Nat.le_trans h.size h1.size, fun g hg hc hb ht' hr' hy => ?_, fun hcb g hg hc hb ht' hr' hv => ?_, fun hcb => (h.vb hcb).trans (h1.vb (Nat.lt_of_lt_of_le hcb h.size)) h.size, fun hbm g hg => ?_⟩
  rotate_left
  · exact (h1.fine (Nat.lt_of_lt_of_le hcb h.size) g (Nat.lt_of_lt_of_le hg h.size) hc hb (ht.ne hg ht') (hr.ne hg hr') ((h.vb hcb).ne hg hv)).trans (h.fine hcb g hg hc hb ht' hr' hv)
  · rcases h1.mp (Nat.lt_of_lt_of_le hbm h.size) g hg with h' | h'
    · exact h.mp hbm g h'
    · exact .inr (Nat.le_trans h.size h')
  have e := h.block g hg hc hb ht' hr' hy
  exact (h1.block g (Nat.lt_of_lt_of_le hg h.size) hc hb (ht.ne hg ht') (hr.ne hg hr') (fun hn cs fr => by rw [e]; exact hy hn cs fr)).trans e
theorem Fp.of_below {n0 cb bm : Nat} {t r : Option Nat} {W W' : World} (h : Below W.heap.size W W') : Fp n0 cb bm t r W W' := ⟨h.os, h.tape, h.output, h.size, fun g hg _ _ _ _ _ => h.block g hg, fun _ g hg _ _ _ _ _ => h.block g hg, fun hc => by rw [VB.same (h.block cb hc)]; exact Nw.refl _ _, fun hb g hg => .inl (hg.same (h.block bm hb))⟩
theorem Fp.of_kp {n0 cb bm : Nat} {t r : Option Nat} {W W' : World} (h : Kp n0 cb r W W') (hm : W'.heap[bm]? = W.heap[bm]?) : Fp n0 cb bm t r W W' := ⟨h.os, h.tape, h.output, h.size, fun g hg hc _ _ hr hy => h.block g hg hc hr hy, fun hcb g hg hc _ _ hr hv => h.fine hcb g hg hc hr hv, h.vb, fun _ g hg => .inl (hg.same hm)⟩
theorem Fp.of_tw {n0 cb bm : Nat} {t r : Option Nat} {W W' : World} (h : Twv cb t W W') (hm : W'.heap[bm]? = W.heap[bm]?) : Fp n0 cb bm t r W W' := ⟨h.os, h.tape, h.output, h.size, fun g hg hc _ ht _ _ => h.block g hg hc ht, fun _ g hg hc _ ht _ _ => h.block g hg hc ht, fun _ => by rw [h.vb]; exact Nw.refl _ _, fun _ g hg => .inl (hg.same hm)⟩
theorem Fp.of_map {n0 cb bm : Nat} {t r : Option Nat} {W W' : World} (h : W.mapTurned W' bm) (hcb : cb ≠ bm) (hm : ∀ g, Rs bm W' g → Rs bm W g ∨ W.heap.size ≤ g) : Fp n0 cb bm t r W W' := ⟨h.grown.os, h.grown.tape, h.grown.output, h.grown.size, fun g hg _ hb _ _ _ => h.grown.block g hg (by intro e; injection e with e; exact hb e), fun _ g hg _ hb _ _ _ => h.grown.block g hg (by intro e; injection e with e; exact hb e), fun hc => by rw [VB.same (h.grown.block cb hc (by intro e; injection e with e; exact hcb e))]; exact Nw.refl _ _, fun _ => hm⟩
theorem Fp.of_cell {n0 cb bm : Nat} {t r : Option Nat} (W : World) (k : Nat) (v : Value) (hk : k ≠ 5) (hcb : bm ≠ cb) {cs : Array Value} {ty : TypeId} {fr : Nat × Nat} (hc : W.heap[cb]? = some (.cells cs ty fr)) : Fp n0 cb bm t r W (W.setCell ⟨cb, k, none⟩ v) := ⟨rfl, rfl, rfl, by simp, fun g hg hc _ _ _ _ => heap_other _ _ hc, fun _ g hg hc _ _ _ _ => heap_other _ _ hc, fun _ => by
  have e : VB (W.setCell ⟨cb, k, none⟩ v) cb = VB W cb := by
    unfold VB
    rw [row_cell (heap_set_row hc v) 5, row_cell hc 5, Array.getElem?_setIfInBounds_ne hk]
  rw [e]; exact Nw.refl _ _, fun _ g hg => .inl (hg.same (heap_other _ _ hcb))⟩
/-- Behind new memory, a turn of the map whose new row is new since then. -/
theorem Fp.map_below {n0 cb bm : Nat} {t r : Option Nat} {W W1 W2 : World} (hB : Below W.heap.size W W1) (h : W1.mapTurned W2 bm) (hcb : cb ≠ bm) (hm : ∀ g, Rs bm W2 g → Rs bm W1 g ∨ W.heap.size ≤ g) : Fp n0 cb bm t r W W2 := by
  have hs := hB.size
  have hk : ∀ g, g < W.heap.size → g ≠ bm → W2.heap[g]? = W.heap[g]? := fun g hg hb => (h.grown.block g (by omega) (by intro e; injection e with e; exact hb e)).trans (hB.block g hg)
  refine ⟨h.grown.os.trans hB.os, h.grown.tape.trans hB.tape, h.grown.output.trans hB.output, Nat.le_trans hs h.grown.size, fun g hg _ hb _ _ _ => hk g hg hb, fun _ g hg _ hb _ _ _ => hk g hg hb, fun hc => by rw [VB.same (hk cb hc hcb)]; exact Nw.refl _ _, fun hb g hg => ?_⟩
  rcases hm g hg with h' | h'
  · exact .inl (h'.same (hB.block bm hb))
  · exact .inr h'
theorem Fp.below {n0 cb bm : Nat} {t r : Option Nat} {W W' : World} (h : Fp n0 cb bm t r W W') (hc : n0 ≤ cb) (hb : n0 ≤ bm) (ht : ∀ g, t = some g → n0 ≤ g) (hr : ∀ g, r = some g → n0 ≤ g) (hn : n0 ≤ W.heap.size) : Below n0 W W' :=
  ⟨h.os, h.tape, h.output, h.size, fun g hg => h.block g (by omega) (by omega) (by omega) (fun e => by have := ht g e.symm; omega) (fun e => by have := hr g e.symm; omega) (fun hn => by omega)⟩

/-- A block that the checker does not turn. -/
def Away (n0 cb bm : Nat) (t r : Option Nat) (W : World) (g : Nat) : Prop := g < W.heap.size ∧ g ≠ cb ∧ g ≠ bm ∧ some g ≠ t ∧ some g ≠ r ∧ (n0 ≤ g → ∀ cs fr, W.heap[g]? ≠ some (.cells cs 119 fr))
theorem Away.same {n0 cb bm g : Nat} {t r : Option Nat} {W W' : World} (h : Away n0 cb bm t r W g) (k : Fp n0 cb bm t r W W') : W'.heap[g]? = W.heap[g]? := k.block g h.1 h.2.1 h.2.2.1 h.2.2.2.1 h.2.2.2.2.1 h.2.2.2.2.2
theorem Away.fp {n0 cb bm g : Nat} {t t' r r' : Option Nat} {W W' : World} (h : Away n0 cb bm t r W g) (k : Fp n0 cb bm t r W W') (ht : Nw W t t') (hr : Nw W r r') : Away n0 cb bm t' r' W' g :=
  ⟨Nat.lt_of_lt_of_le h.1 k.size, h.2.1, h.2.2.1, ht.ne h.1 h.2.2.2.1, hr.ne h.1 h.2.2.2.2.1, fun hn cs fr => by rw [h.same k]; exact h.2.2.2.2.2 hn cs fr⟩
theorem Away.still {n0 cb bm g : Nat} {t r : Option Nat} {W : World} (h : Away n0 cb bm t r W g) : Still n0 cb r W g := ⟨h.1, h.2.1, h.2.2.2.2.1, h.2.2.2.2.2⟩
/-- A row that the checker does not turn. -/
def ArgR (q : IntKind) (lo hi : Int) (n0 cb bm : Nat) (t r : Option Nat) (W : World) (a : Option Addr) (xs : List Int) : Prop :=
  Row q lo hi W a xs ∧ ∀ g off, a = some ⟨g, off, none⟩ → xs ≠ [] → Away n0 cb bm t r W g
theorem ArgR.fp {q : IntKind} {lo hi : Int} {n0 cb bm : Nat} {t t' r r' : Option Nat} {W W' : World} {a : Option Addr} {xs : List Int} (h : ArgR q lo hi n0 cb bm t r W a xs) (k : Fp n0 cb bm t r W W') (ht : Nw W t t') (hr : Nw W r r') : ArgR q lo hi n0 cb bm t' r' W' a xs := by
  obtain ⟨⟨h1, h2⟩, h3⟩ := h
  refine ⟨⟨h1, ?_⟩, fun g off e hx => (h3 g off e hx).fp k ht hr⟩
  rcases h2 with h2 | ⟨b, off, e, hl, hc⟩
  · exact .inl h2
  · refine .inr ⟨b, off, e, Nat.lt_of_lt_of_le hl k.size, fun j hj => ?_⟩
    exact (World.cell?_of_block (a := ⟨b, off + j, none⟩) ((h3 b off e (by intro e; rw [e] at hj; simp at hj)).same k)).trans (hc j hj)
theorem ArgR.safe {q : IntKind} {lo hi : Int} {n0 cb bm : Nat} {t r : Option Nat} {W : World} {a : Option Addr} {xs : List Int} (h : ArgR q lo hi n0 cb bm t r W a xs) : SafeR q lo hi n0 cb r W a xs := ⟨h.1, fun g off e hx => (h.2 g off e hx).still⟩

/-- The clauses that stand, each in a row of the checker's own. -/
structure Stood (n0 bm k : Nat) (f : Int → Option Value) (F : Int → Option (List Int)) (r : Option Nat) (W : World) : Prop where
  map : Mp W bm k f
  base : n0 ≤ bm
  none_ : ∀ id, f id = none → F id = none
  some_ : ∀ id v, f id = some v → ∃ xs, F id = some xs ∧ W.ownsRow n0 40 1 v xs.length (xs.map (Value.int .i32)) ∧ ∀ g, v.ownBlock = some g → some g ≠ r
theorem Mp.obj {W : World} {bm n : Nat} {f : Int → Option Value} (h : Mp W bm n f) : ∃ es cl, W.heap[bm]? = some (.map es cl) := by
  obtain ⟨D, ⟨es, cl, h1, h2⟩, h3⟩ := h
  exact ⟨es, cl, h1⟩
theorem Mp.ne {W : World} {bm n b : Nat} {f : Int → Option Value} (h : Mp W bm n f) {cs : Array Value} {ty : TypeId} {fr : Nat × Nat} (hb : W.heap[b]? = some (.cells cs ty fr)) : b ≠ bm := by
  rintro rfl
  obtain ⟨es, cl, h1⟩ := h.obj
  rw [hb] at h1; cases h1
theorem Stood.stand {n0 cb bm k : Nat} {f : Int → Option Value} {C : List (Int × List Int)} {last : Int} {r : Option Nat} {W : World} {c0 c1 c2 c3 c4 : Value} {T : List Int} (h : Stood n0 bm k f (Ckr.look C) r W) (hA : Asg n0 cb c0 c1 c2 c3 c4 W T r) (hG : Ckr.Good C last) : Stand n0 cb bm k f (Ckr.look C) r W := by
  obtain ⟨vals, vv, vr, hr, hcb, hsz, hc, hov, hot, hV⟩ := hA
  obtain ⟨es, cl, hm⟩ := h.map.obj
  have hbm : bm < W.heap.size := (Array.getElem?_eq_some_iff.1 hm).1
  refine ⟨h.map, ⟨hbm, (h.map.ne hc).symm, ?_, fun _ cs fr e => by rw [hm] at e; cases e⟩, h.none_, fun id v hv => ?_⟩
  · rw [hr]
    intro e
    obtain ⟨_, cur, h2⟩ := own_blk hot e.symm
    rw [hm] at h2; cases h2
  · obtain ⟨xs, hF, ho, hne⟩ := h.some_ id v hv
    have hmem := Ckr.look_mem hF
    obtain ⟨a, c, rfl⟩ := own_slc ho
    refine ⟨a, c, xs, rfl, hF, ⟨own_row ho (fun x hx => by have := hG.lits x (Ckr.mem_all hmem x hx); omega), fun g off e hx => ?_⟩, by have := Ckr.len_all hmem; have := hG.few; simp only at *; omega, fun x hx => hG.lits x (Ckr.mem_all hmem x hx)⟩
    obtain ⟨g', c', cur, e1, _, hg', _⟩ := own_some ho (List.length_pos_iff.2 hx)
    cases e
    cases e1
    refine ⟨(Array.getElem?_eq_some_iff.1 hg').1, ?_, hne _ rfl, fun _ cs fr e => ?_⟩
    · rintro rfl; rw [hc] at hg'; injection hg' with e1; injection e1 with _ e2; cases e2
    · rw [hg'] at e; injection e with e1; injection e1 with _ e2; cases e2
/-- It stays as long as neither the map nor a clause's row turns. -/
theorem Stood.keep {n0 bm k : Nat} {f : Int → Option Value} {F : Int → Option (List Int)} {r r' : Option Nat} {W W' : World} (h : Stood n0 bm k f F r W) (hm : W'.heap[bm]? = W.heap[bm]?) (hr : Nw W r r') (hk : ∀ g cs, g < W.heap.size → W.heap[g]? = some (.cells cs 40 (0, 0)) → some g ≠ r → W'.heap[g]? = W.heap[g]?) : Stood n0 bm k f F r' W' := by
  refine ⟨h.map.same hm, h.base, h.none_, fun id v hv => ?_⟩
  obtain ⟨xs, hF, ho, hne⟩ := h.some_ id v hv
  refine ⟨xs, hF, own_keep ho (fun g cs e hg => hk g cs (Array.getElem?_eq_some_iff.1 hg).1 hg (hne g e)), fun g hg => ?_⟩
  obtain ⟨_, cur, h2⟩ := own_blk ho hg
  exact hr.ne (Array.getElem?_eq_some_iff.1 h2).1 (hne g hg)
theorem Stood.kp {n0 cb bm k : Nat} {f : Int → Option Value} {F : Int → Option (List Int)} {r r' : Option Nat} {W W' : World} {c0 c1 c2 c3 c4 : Value} {T : List Int} (h : Stood n0 bm k f F r W) (hA : Asg n0 cb c0 c1 c2 c3 c4 W T r) (hk : Kp n0 cb r W W') (hr : Nw W r r') : Stood n0 bm k f F r' W' := by
  obtain ⟨vals, vv, vr, hre, hcb, hsz, hc, hov, hot, hV⟩ := hA
  obtain ⟨es, cl, hm⟩ := h.map.obj
  refine h.keep (hk.block bm (Array.getElem?_eq_some_iff.1 hm).1 (h.map.ne hc).symm ?_ (fun _ cs fr e => by rw [hm] at e; cases e)) hr (fun g cs hgl hg hne => hk.block g hgl ?_ hne (fun _ cs' fr e => ?_))
  · rw [hre]; intro e; obtain ⟨_, cur, h2⟩ := own_blk hot e.symm; rw [hm] at h2; cases h2
  · rintro rfl; rw [hc] at hg; injection hg with e1; injection e1 with _ e2; cases e2
  · rw [hg] at e; injection e with e1; injection e1 with _ e2; cases e2
theorem Stood.map_kp {n0 cb bm k : Nat} {f : Int → Option Value} {F : Int → Option (List Int)} {r : Option Nat} {W W' : World} {c0 c1 c2 c3 c4 : Value} {T : List Int} (h : Stood n0 bm k f F r W) (hA : Asg n0 cb c0 c1 c2 c3 c4 W T r) (hk : Kp n0 cb r W W') : W'.heap[bm]? = W.heap[bm]? := by
  obtain ⟨vals, vv, vr, hre, hcb, hsz, hc, hov, hot, hV⟩ := hA
  obtain ⟨es, cl, hm⟩ := h.map.obj
  refine hk.block bm (Array.getElem?_eq_some_iff.1 hm).1 (h.map.ne hc).symm ?_ (fun _ cs fr e => by rw [hm] at e; cases e)
  rw [hre]; intro e; obtain ⟨_, cur, h2⟩ := own_blk hot e.symm; rw [hm] at h2; cases h2
theorem Stood.map_tw {n0 cb bm k : Nat} {f : Int → Option Value} {F : Int → Option (List Int)} {r t : Option Nat} {W W' : World} {c0 c1 c2 c3 c4 : Value} {T tm : List Int} {at3 : Option Addr} {ct3 : Nat} (h : Stood n0 bm k f F r W) (hA : Asg n0 cb c0 c1 c2 c3 c4 W T r) (ho : W.ownsRow n0 3 1 (.slice at3 tm.length ct3) tm.length (tm.map (Value.int .i64))) (ht : t = (Value.slice at3 tm.length ct3).ownBlock) (hk : Tw cb t W W') : W'.heap[bm]? = W.heap[bm]? := by
  obtain ⟨vals, vv, vr, hre, hcb, hsz, hc, hov, hot, hV⟩ := hA
  obtain ⟨es, cl, hm⟩ := h.map.obj
  refine hk.block bm (Array.getElem?_eq_some_iff.1 hm).1 (h.map.ne hc).symm ?_
  rw [ht]; intro e; obtain ⟨_, cur, h2⟩ := own_blk ho e.symm; rw [hm] at h2; cases h2
theorem Stood.below {n0 bm k : Nat} {f : Int → Option Value} {F : Int → Option (List Int)} {r : Option Nat} {W W' : World} (h : Stood n0 bm k f F r W) (hb : Below W.heap.size W W') : Stood n0 bm k f F r W' := by
  obtain ⟨es, cl, hm⟩ := h.map.obj
  exact h.keep (hb.block bm (Array.getElem?_eq_some_iff.1 hm).1) (Nw.refl _ _) (fun g cs hgl _ _ => hb.block g hgl)
theorem Stood.tw {n0 cb bm k : Nat} {f : Int → Option Value} {F : Int → Option (List Int)} {r t : Option Nat} {W W' : World} {c0 c1 c2 c3 c4 : Value} {T tm : List Int} {at3 : Option Addr} {ct3 : Nat} (h : Stood n0 bm k f F r W) (hA : Asg n0 cb c0 c1 c2 c3 c4 W T r) (ho : W.ownsRow n0 3 1 (.slice at3 tm.length ct3) tm.length (tm.map (Value.int .i64))) (ht : t = (Value.slice at3 tm.length ct3).ownBlock) (hk : Tw cb t W W') : Stood n0 bm k f F r W' := by
  obtain ⟨vals, vv, vr, hre, hcb, hsz, hc, hov, hot, hV⟩ := hA
  obtain ⟨es, cl, hm⟩ := h.map.obj
  refine h.keep (hk.block bm (Array.getElem?_eq_some_iff.1 hm).1 (h.map.ne hc).symm ?_) (Nw.refl _ _) (fun g cs hgl hg hne => hk.block g hgl ?_ ?_)
  · rw [ht]; intro e; obtain ⟨_, cur, h2⟩ := own_blk ho e.symm; rw [hm] at h2; cases h2
  · rintro rfl; rw [hc] at hg; injection hg with e1; injection e1 with _ e2; cases e2
  · rw [ht]; exact own_type ho hg (by decide)

/-- The checker between two calls. -/
structure Ck (n0 cb bm : Nat) (t r : Option Nat) (k : Nat) (W : World) (C : List (Int × List Int)) (last : Int) (dn : Bool) : Prop where
  good : Ckr.Good C last
  mem : ∃ f tm at3 ct3, Asg n0 cb (.map (some bm)) (.int .i64 last) (.int .i64 (Ckr.all C).length) (.slice at3 tm.length ct3) (.bool dn) W [] r ∧ Stood n0 bm k f (Ckr.look C) r W ∧ W.ownsRow n0 3 1 (.slice at3 tm.length ct3) tm.length (tm.map (Value.int .i64)) ∧ t = (Value.slice at3 tm.length ct3).ownBlock ∧ Ckr.Tm tm (Ckr.all C)
theorem Ck.below {n0 cb bm : Nat} {t r : Option Nat} {k : Nat} {W W' : World} {C : List (Int × List Int)} {last : Int} {dn : Bool} (h : Ck n0 cb bm t r k W C last dn) (hb : Below W.heap.size W W') : Ck n0 cb bm t r k W' C last dn := by
  obtain ⟨f, tm, at3, ct3, hA, hS, ho, ht, hT⟩ := h.mem
  exact ⟨h.good, f, tm, at3, ct3, hA.below hb, hS.below hb, own_below ho hb, ht, hT⟩
end Go.Proofs.Ytjjanmgeogjngaa

/- A clause stands: the call. -/
namespace Go.Proofs.Ytjjanmgeogjngaa
open Go.RowKit Go.Maps
set_option linter.unusedVariables false

theorem Asg.keep {n0 cb : Nat} {c0 c1 c2 c3 c4 : Value} {W W' : World} {T : List Int} {r : Option Nat} (h : Asg n0 cb c0 c1 c2 c3 c4 W T r) (hs : W.heap.size ≤ W'.heap.size) (hk : ∀ (g : Nat) (cs : Array Value) (ty : TypeId) (fr : Nat × Nat), W.heap[g]? = some (.cells cs ty fr) → W'.heap[g]? = W.heap[g]?) : Asg n0 cb c0 c1 c2 c3 c4 W' T r := by
  obtain ⟨vals, vv, vr, hr, hcb, hsz, hc, hov, hot, hV⟩ := h
  exact ⟨vals, vv, vr, hr, hcb, Nat.le_trans hsz hs, (hk cb _ _ _ hc).trans hc, own_keep hov (fun g cs _ hg => hk g _ _ _ hg), own_keep hot (fun g cs _ hg => hk g _ _ _ hg), hV⟩
theorem Asg.set1 {n0 cb : Nat} {c0 c1 c2 c3 c4 : Value} {W : World} {T : List Int} {r : Option Nat} (h : Asg n0 cb c0 c1 c2 c3 c4 W T r) (v : Value) : Asg n0 cb c0 v c2 c3 c4 (W.setCell ⟨cb, 1, none⟩ v) T r := by
  obtain ⟨vals, vv, vr, hr, hcb, hsz, hc, hov, hot, hV⟩ := h
  have hne : ∀ g cs ty, ty ≠ 75 → W.heap[g]? = some (.cells cs ty (0, 0)) → g ≠ cb := by
    rintro g cs ty ht hg rfl; rw [hc] at hg; injection hg with e1; injection e1 with _ e2; exact ht e2.symm
  exact ⟨vals, vv, vr, hr, hcb, by simp; exact hsz, by rw [heap_set_row hc]; rfl, own_keep hov (fun g cs _ hg => heap_other _ _ (hne g cs _ (by decide) hg)), own_keep hot (fun g cs _ hg => heap_other _ _ (hne g cs _ (by decide) hg)), hV⟩
theorem Asg.set4 {n0 cb : Nat} {c0 c1 c2 c3 c4 : Value} {W : World} {T : List Int} {r : Option Nat} (h : Asg n0 cb c0 c1 c2 c3 c4 W T r) (v : Value) : Asg n0 cb c0 c1 c2 c3 v (W.setCell ⟨cb, 4, none⟩ v) T r := by
  obtain ⟨vals, vv, vr, hr, hcb, hsz, hc, hov, hot, hV⟩ := h
  have hne : ∀ g cs ty, ty ≠ 75 → W.heap[g]? = some (.cells cs ty (0, 0)) → g ≠ cb := by
    rintro g cs ty ht hg rfl; rw [hc] at hg; injection hg with e1; injection e1 with _ e2; exact ht e2.symm
  exact ⟨vals, vv, vr, hr, hcb, by simp; exact hsz, by rw [heap_set_row hc]; rfl, own_keep hov (fun g cs _ hg => heap_other _ _ (hne g cs _ (by decide) hg)), own_keep hot (fun g cs _ hg => heap_other _ _ (hne g cs _ (by decide) hg)), hV⟩
theorem Asg.blk {n0 cb : Nat} {c0 c1 c2 c3 c4 : Value} {W : World} {T : List Int} {r : Option Nat} (h : Asg n0 cb c0 c1 c2 c3 c4 W T r) : ∃ vv vr, W.heap[cb]? = some (.cells #[c0, c1, c2, c3, c4, vv, vr] 75 (0, 0)) := by
  obtain ⟨vals, vv, vr, hr, hcb, hsz, hc, hov, hot, hV⟩ := h
  exact ⟨vv, vr, hc⟩
theorem Asg.size {n0 cb : Nat} {c0 c1 c2 c3 c4 : Value} {W : World} {T : List Int} {r : Option Nat} (h : Asg n0 cb c0 c1 c2 c3 c4 W T r) : n0 ≤ W.heap.size := by
  obtain ⟨vals, vv, vr, hr, hcb, hsz, hc, hov, hot, hV⟩ := h
  exact hsz
theorem Asg.trail {n0 cb : Nat} {c0 c1 c2 c3 c4 : Value} {W : World} {T : List Int} {r : Option Nat} (h : Asg n0 cb c0 c1 c2 c3 c4 W T r) : n0 ≤ cb ∧ ∀ g, r = some g → n0 ≤ g ∧ g < W.heap.size := by
  obtain ⟨vals, vv, vr, hr, hcb, hsz, hc, hov, hot, hV⟩ := h
  exact ⟨hcb, fun g hg => hot.lt g (by rw [← hr, hg])⟩
theorem Stood.set {n0 cb bm k : Nat} {f : Int → Option Value} {F : Int → Option (List Int)} {r : Option Nat} {W : World} {c0 c1 c2 c3 c4 : Value} {T : List Int} (h : Stood n0 bm k f F r W) (hA : Asg n0 cb c0 c1 c2 c3 c4 W T r) (j : Nat) (v : Value) : Stood n0 bm k f F r (W.setCell ⟨cb, j, none⟩ v) := by
  obtain ⟨vv, vr, hc⟩ := hA.blk
  refine h.keep (heap_other _ _ (h.map.ne hc).symm) (Nw.refl _ _) (fun g cs hgl hg hne => heap_other _ _ ?_)
  rintro rfl; rw [hc] at hg; injection hg with e1; injection e1 with _ e2; cases e2
theorem own_set_cb {n0 cb : Nat} {c0 c1 c2 c3 c4 : Value} {W : World} {T : List Int} {r : Option Nat} (hA : Asg n0 cb c0 c1 c2 c3 c4 W T r) {v : Value} {n e : Nat} {xs : List Value} (h : W.ownsRow n0 e 1 v n xs) (he : e ≠ 75) (j : Nat) (u : Value) : (W.setCell ⟨cb, j, none⟩ u).ownsRow n0 e 1 v n xs := by
  obtain ⟨vv, vr, hc⟩ := hA.blk
  refine own_keep h (fun g cs _ hg => heap_other _ _ ?_)
  rintro rfl; rw [hc] at hg; injection hg with e1; injection e1 with _ e2; exact he e2.symm

/-- Behind the clone: the map takes it. -/
theorem stand_mid (n0 cb bm k : Nat) (f : Int → Option Value) (F F' : Int → Option (List Int)) (c1 c2 c4 : Value) (tm : List Int) (at3 : Option Addr) (ct3 : Nat) (t r : Option Nat) (W w2 : World) (id : Int) (xs : List Int) (o : Option Addr) (n k2 : Nat)
    (hA : Asg n0 cb (.map (some bm)) c1 c2 (.slice at3 tm.length ct3) c4 W [] r) (hS : Stood n0 bm k f F r W) (hot : W.ownsRow n0 3 1 (.slice at3 tm.length ct3) tm.length (tm.map (Value.int .i64)))
    (hB : Below W.heap.size W w2) (hn : xs.length = n) (ho : w2.ownsRow W.heap.size 40 1 (.slice o n k2) n (xs.map (Value.int .i32))) (hi : I64 id) (hk : k < maxLen) (hF : ∀ j, F' j = if j = id then some xs else F j) :
    ∃ W3, (Instr.mapUpdate 71 (.map (some bm)) (.int .i64 id) (.slice o n k2)).run Try.prog w2 = .ok () W3 ∧ w2.cell? ⟨cb, 0, none⟩ = some (.map (some bm)) ∧ Asg n0 cb (.map (some bm)) c1 c2 (.slice at3 tm.length ct3) c4 W3 [] r ∧
      Stood n0 bm (k + 1) (upd f id (some (.slice o n k2))) F' r W3 ∧ W3.ownsRow n0 3 1 (.slice at3 tm.length ct3) tm.length (tm.map (Value.int .i64)) ∧ Fp n0 cb bm t r W W3 := by
  have hA2 := hA.below hB
  have hS2 := hS.below hB
  have hot2 := own_below hot hB
  obtain ⟨W3, hr, hM3, hT⟩ := hS2.map.put hi hk (.slice o n k2)
  have hg := hT.grown
  have keep : ∀ (g : Nat) (cs : Array Value) (ty : TypeId) (fr : Nat × Nat), w2.heap[g]? = some (.cells cs ty fr) → W3.heap[g]? = w2.heap[g]? := fun g cs ty fr h => hg.block g (Array.getElem?_eq_some_iff.1 h).1 (by intro e; injection e with e; exact hS2.map.ne h e)
  obtain ⟨vv, vr, hc⟩ := hA2.blk
  refine ⟨W3, hr, row_cell hc 0, hA2.keep hg.size keep, ⟨hM3, hS.base, fun j hj => ?_, fun j v hj => ?_⟩, own_keep hot2 (fun g cs _ h => keep g _ _ _ h), Fp.map_below hB hT (hS2.map.ne hc) (fun g hg => (Rs.put hS2.map hM3 hg).imp (fun h => h) (fun h => by
    obtain ⟨v, e, hv⟩ := h
    cases e
    exact (own_blk ho hv).1))⟩
  · rw [hF]
    unfold upd at hj
    by_cases e : j = id
    · rw [if_pos e] at hj; cases hj
    · rw [if_neg e] at hj ⊢; exact hS.none_ j hj
  · rw [hF]
    unfold upd at hj
    by_cases e : j = id
    · rw [if_pos e] at hj ⊢
      cases hj
      refine ⟨xs, rfl, ?_, fun g hg' hr' => ?_⟩
      · rw [hn]
        exact own_base (own_keep ho (fun g cs _ h => keep g _ _ _ h)) hA.size
      · have h1 := (ho.lt g hg').1
        have h2 := (hA.trail.2 g hr'.symm).2
        omega
    · rw [if_neg e] at hj ⊢
      obtain ⟨ys, h1, h2, h3⟩ := hS2.some_ j v hj
      exact ⟨ys, h1, own_keep h2 (fun g cs _ h => keep g _ _ _ h), h3⟩

def StandOut (n0 cb bm : Nat) (t r : Option Nat) (k : Nat) (W : World) (C : List (Int × List Int)) (last : Int) (dn : Bool) (e : Ending) (W' : World) : Prop :=
  e = .returned (.tuple #[]) ∧ ∃ t', Ck n0 cb bm t' r k W' C last dn ∧ Fp n0 cb bm t r W W' ∧ Nw W t t'
abbrev ArgL := ArgR .i32 (-2147483648) 2147483647
abbrev ArgH := ArgR .i64 (-9223372036854775808) 9223372036854775807

set_option maxRecDepth 100000 in
set_option maxHeartbeats 4000000 in
theorem stand40 (n0 cb bm : Nat) (t r : Option Nat) (k : Nat) (W : World) (C : List (Int × List Int)) (last : Int) (dn : Bool) (id : Int) (a : Option Addr) (n c : Nat) (xs : List Int) (hC : Ck n0 cb bm t r k W C last dn) (hk : k < maxLen)
    (hi : last < id) (him : id ≤ 4611686018427387903) (hn : xs.length = n) (hx : ArgL n0 cb bm t r W a xs) (hl : ∀ x ∈ xs, x ≠ 0 ∧ -1048576 ≤ x ∧ x ≤ 1048576) (hf : (Ckr.all C).length + xs.length ≤ 16777216) :
    Calls Try.prog 40 #[.pointer (some ⟨cb, 0, none⟩), .int .i64 id, .slice a n c] W fun e W' => StandOut n0 cb bm t r (k + 1) W (C ++ [(id, xs)]) id (dn || xs.isEmpty) e W' := by
  obtain ⟨hG, f, tm, at3, ct3, hA, hS, hot, ht, hT⟩ := hC
  have hid0 := hG.last_
  have hI : I64 id := ⟨by omega, by omega⟩
  have hne : ∀ p ∈ C, p.1 ≠ id := fun p hp => by have := hG.ids p hp; omega
  have hBd : Below W.heap.size W W.drew := ⟨rfl, rfl, rfl, Nat.le_refl _, fun _ _ => rfl⟩
  have C55 := hid (show Calls Try.prog 55 #[.slice a n c] W.drew fun e w' => CloneOut W.drew xs n e w' from clone55 a n c xs W.drew hn (by omega) (hx.1.below hBd))
  have HM := hid (fun w2 o k2 (hB : Below W.heap.size W w2) (ho : w2.ownsRow W.heap.size 40 1 (.slice o n k2) n (xs.map (Value.int .i32))) => stand_mid n0 cb bm k f (Ckr.look C) (Ckr.look (C ++ [(id, xs)])) (.int .i64 last) (.int .i64 (Ckr.all C).length) (.bool dn) tm at3 ct3 t r W w2 id xs o n k2 hA hS hot hB hn ho hI hk (Ckr.look_snoc xs hne))
  have hTb := hT.bound hG.few
  have C57 := hid (fun W3 (hA3 : Asg n0 cb (.map (some bm)) (.int .i64 last) (.int .i64 (Ckr.all C).length) (.slice at3 tm.length ct3) (.bool dn) W3 [] r) (ho3 : W3.ownsRow n0 3 1 (.slice at3 tm.length ct3) tm.length (tm.map (Value.int .i64))) (hF : Fp n0 cb bm t r W W3) =>
    count57 n0 cb (.map (some bm)) (.int .i64 last) (.bool dn) (Ckr.all C).length 1 tm at3 ct3 a n c xs W3 [] r hA3 ho3 hn (by omega) (hx.fp hF (Nw.refl _ _) (Nw.refl _ _)).1 (fun g off e h => by have h' := hx.2 g off e h; exact ⟨h'.2.1, by rw [← ht]; exact h'.2.2.2.1⟩) (fun x hx' => (hl x hx').2) (.inl rfl) (by omega) (by have := hT.len; omega) (fun x hx' => by have := hTb x hx'; omega))
  have HEnd := hid (fun W3 W4 (at4 : Option Addr) (ct4 : Nat) f3 (hF : Fp n0 cb bm t r W W3) (hA3 : Asg n0 cb (.map (some bm)) (.int .i64 last) (.int .i64 (Ckr.all C).length) (.slice at3 tm.length ct3) (.bool dn) W3 [] r) (ho3 : W3.ownsRow n0 3 1 (.slice at3 tm.length ct3) tm.length (tm.map (Value.int .i64))) (hS3 : Stood n0 bm (k + 1) f3 (Ckr.look (C ++ [(id, xs)])) r W3)
      (hA4 : Asg n0 cb (.map (some bm)) (.int .i64 last) (.int .i64 ((Ckr.all C).length + 1 * n)) (.slice at4 (Ckr.countL 1 tm xs).length ct4) (.bool dn) W4 [] r) (ho4 : W4.ownsRow n0 3 1 (.slice at4 (Ckr.countL 1 tm xs).length ct4) (Ckr.countL 1 tm xs).length ((Ckr.countL 1 tm xs).map (Value.int .i64))) (hT4 : Twv cb (Value.slice at3 tm.length ct3).ownBlock W3 W4) (hN4 : Nw W3 (Value.slice at3 tm.length ct3).ownBlock (Value.slice at4 (Ckr.countL 1 tm xs).length ct4).ownBlock) =>
    show StandOut n0 cb bm t r (k + 1) W (C ++ [(id, xs)]) id (dn || xs.isEmpty) (.returned (.tuple #[])) ((W4.setCell ⟨cb, 1, none⟩ (.int .i64 id)).setCell ⟨cb, 4, none⟩ (.bool (dn || xs.isEmpty))) by
      have hS4 := hS3.tw hA3 ho3 rfl hT4.toTw
      have hbm4 := hS3.map_tw hA3 ho3 rfl hT4.toTw
      obtain ⟨vv4, vr4, hc4⟩ := hA4.blk
      have hA5 := hA4.set1 (.int .i64 id)
      have hA6 := hA5.set4 (.bool (dn || xs.isEmpty))
      refine ⟨rfl, _, ⟨hG.snoc id xs hi him hl hf, _, Ckr.countL 1 tm xs, at4, ct4, ?_, (hS4.set hA4 1 _).set hA5 4 _, own_set_cb hA5 (own_set_cb hA4 ho4 (by decide) 1 _) (by decide) 4 _, rfl, ?_⟩, ?_, ?_⟩
      · rw [Ckr.all_snoc, List.length_append, hn, Int.natCast_add]
        rw [Int.one_mul] at hA6
        exact hA6
      · rw [Ckr.all_snoc]; exact hT.plus xs (fun x hx' => (hl x hx').2)
      · rw [← ht] at hT4 hN4
        exact ((hF.trans (Fp.of_tw hT4 hbm4) (Nw.refl _ _) (Nw.refl _ _)).trans (Fp.of_cell W4 1 _ (by decide) (hS4.map.ne hc4).symm hc4) (Nw.refl W t) (Nw.refl _ _)).trans (Fp.of_cell _ 4 _ (by decide) (hS4.map.ne hc4).symm (heap_set_row hc4 _)) (Nw.refl W t) (Nw.refl _ _)
      · rw [← ht] at hN4
        exact (Nw.refl W t).trans hN4 hF.size)
  have x0 : W.cell? ⟨cb, 0, none⟩ = some (.map (some bm)) := by
    obtain ⟨vv, vr, hc⟩ := hA.blk
    exact row_cell hc 0
  have hmn : ∀ W, (binOp .eql 71 (.map (some bm)) (.map none)).run Try.prog W = .ok (.bool false) W := fun W => by kernel_rfl
  have he : xs.isEmpty = ((n : Int) == 0) := by rw [← hn]; cases xs <;> simp <;> omega
  unfold CloneOut at C55
  unfold CountOut at C57
  generalize Ckr.countL 1 tm xs = D at C57 HEnd
  generalize (Ckr.all C).length = LA at C57 HEnd HM hf
  generalize C ++ [(id, xs)] = C' at HEnd HM ⊢
  rw [he] at HEnd ⊢
  clear hG hA hS hot ht hT hid0 hI hne hTb hx hl hf hk hi him hn he
  generalize tm.length = nt at *
  generalize D.length = nd at *
  cases dn
  all_goals
    go_enter Try.func40, Try.ntmps40
    go_wp2
    go_region_with (first
      | (go_at_call 55; refine C55.out.mono ?_; rintro e w2 ⟨o, k2, rfl, ho2, hB2⟩
         have hB3 : Below W.heap.size W w2 := ⟨hB2.os, hB2.tape, hB2.output, hB2.size, hB2.block⟩
         obtain ⟨W3, hrun, y0, hA3, hS3, ho3, hF3⟩ := HM.out w2 o k2 hB3 ho2
         have D57 := hid (C57.out W3 hA3 ho3 hF3)
         have HE := hid (fun W4 at4 ct4 => HEnd.out W3 W4 at4 ct4 _ hF3 hA3 ho3 hS3)
         clear ho2 hB2 hB3 hA3 hS3 ho3 hF3))
    all_goals
      go_wp2_with (go_at_call 57; refine D57.out.mono ?_; rintro e W4 ⟨rfl, at4, ct4, hA4, ho4, hT4, hN4⟩
                   have OUT := hid (HE.out W4 at4 ct4 hA4 ho4 hT4 hN4)
                   obtain ⟨vv, vr, hc4⟩ := hA4.blk
                   have z1 := row_cell hc4 1
                   have f1 := row_frozen hc4 1
                   have hc5 := heap_set_row (k := 1) hc4 (.int .i64 id)
                   generalize hW5 : W4.setCell ⟨cb, 1, none⟩ (.int .i64 id) = W5 at hc5 OUT
                   have z4 := row_cell hc5 4
                   have f4 := row_frozen hc5 4
                   simp only [List.getElem?_toArray, List.getElem?_cons_zero, List.getElem?_cons_succ, List.setIfInBounds_toArray, List.set_cons_zero, List.set_cons_succ] at z1 z4
                   clear hA4 ho4 hT4 hN4 hc4 hc5 hrun HE D57)
      go_end0
      exact OUT.out
end Go.Proofs.Ytjjanmgeogjngaa

/- A new checker: the call. -/
namespace Ckr
/-- Clauses under rising ids. -/
def num : Int → List (List Int) → List (Int × List Int)
  | _, [] => []
  | i, c :: cs => (i, c) :: num (i + 1) cs
theorem num_snoc (cs : List (List Int)) (c : List Int) : ∀ i, num i (cs ++ [c]) = num i cs ++ [(i + cs.length, c)] := by
  induction cs with
  | nil => intro i; simp [num]
  | cons d cs ih => intro i; simp only [List.cons_append, num, ih, List.length_cons]; rw [show i + 1 + (cs.length : Int) = i + ((cs.length + 1 : Nat) : Int) by omega]
theorem num_all (cs : List (List Int)) : ∀ i, all (num i cs) = cs.flatten := by
  induction cs with
  | nil => intro i; rfl
  | cons c cs ih => intro i; show c ++ all (num (i + 1) cs) = _; rw [ih]; rfl
end Ckr
namespace Go.Proofs.Ytjjanmgeogjngaa
open Go.RowKit Go.Maps
set_option linter.unusedVariables false

/-- The checker of no clause. -/
theorem Ck.new (n0 cb bm : Nat) (W : World) (h0 : n0 ≤ bm) (h1 : n0 ≤ cb) (hs : n0 ≤ W.heap.size) (hc : W.heap[cb]? = some (.cells #[.map (some bm), .int .i64 0, .int .i64 0, .slice none 0 0, .bool false, .slice none 0 0, .slice none 0 0] 75 (0, 0))) (hm : Mp W bm 0 (fun _ => none)) : Ck n0 cb bm none none 0 W [] 0 false := by
  refine ⟨⟨List.Pairwise.nil, fun p hp => (by cases hp), (by omega), fun x hx => (by cases hx), Nat.zero_le _⟩, fun _ => none, [], none, 0, ⟨[], _, _, rfl, h1, hs, hc, World.ownsRow_nil _ _ _ _, World.ownsRow_nil _ _ _ _, ⟨fun l hl => (by cases hl), fun l hl => (by cases hl), List.nodup_nil, fun v => (by simp [Ckr.vl])⟩, Nat.zero_le _, Nat.zero_le _, fun x hx => (by cases hx)⟩, ⟨hm, h0, fun _ _ => rfl, fun id v hv => (by cases hv)⟩, World.ownsRow_nil _ _ _ _, rfl, ⟨Nat.zero_le _, fun j => (by simp [Ckr.all])⟩⟩
theorem Ck.facts {n0 cb bm : Nat} {t r : Option Nat} {k : Nat} {W : World} {C : List (Int × List Int)} {last : Int} {dn : Bool} (h : Ck n0 cb bm t r k W C last dn) : n0 ≤ cb ∧ n0 ≤ bm ∧ (∀ g, t = some g → n0 ≤ g ∧ g < W.heap.size) ∧ (∀ g, r = some g → n0 ≤ g ∧ g < W.heap.size) ∧ n0 ≤ W.heap.size := by
  obtain ⟨f, tm, at3, ct3, hA, hS, ho, ht, hT⟩ := h.mem
  exact ⟨hA.trail.1, hS.base, fun g hg => ho.lt g (by rw [← ht, hg]), hA.trail.2, hA.size⟩
/-- Rows that lie below the checker's blocks. -/
theorem Ck.arg {n0 cb bm : Nat} {t r : Option Nat} {k : Nat} {W : World} {C : List (Int × List Int)} {last : Int} {dn : Bool} (h : Ck n0 cb bm t r k W C last dn) {q : IntKind} {lo hi : Int} {a : Option Addr} {xs : List Int} (hx : Row q lo hi W a xs) (hb : ∀ g off, a = some ⟨g, off, none⟩ → xs ≠ [] → g < n0) : ArgR q lo hi n0 cb bm t r W a xs := by
  obtain ⟨h1, h2, h3, h4, h5⟩ := h.facts
  refine ⟨hx, fun g off e hne => ?_⟩
  have := hb g off e hne
  exact ⟨by omega, by omega, by omega, fun e => by have := (h3 g e.symm).1; omega, fun e => by have := (h4 g e.symm).1; omega, fun hn => by omega⟩

def NewOut (w : World) (cs : List (List Int)) (e : Ending) (w' : World) : Prop :=
  ∃ cb bm t r, e = .returned (.tuple #[.pointer (some ⟨cb, 0, none⟩), .int .i64 0]) ∧ Ck w.heap.size cb bm t r cs.length w' (Ckr.num 1 cs) cs.length (cs.any (fun c => c.isEmpty)) ∧ Below w.heap.size w w'
set_option maxRecDepth 100000 in
set_option maxHeartbeats 4000000 in
theorem new13_err (vars : Int) (a : Option Addr) (n cap : Nat) (cs : List (List Int)) (w : World) (hn : cs.length = n) (hc : Cls w a cs) (hr : ¬ Cnf.right vars cs = 0) :
    Calls Try.prog 13 #[.agg #[.int .i64 vars, .slice a n cap]] w fun e w' => e = .returned (.tuple #[.pointer none, .int .i64 (Cnf.right vars cs)]) ∧ Below w.heap.size w w' := by
  have hB := below_box w (.cells #[.int .i64 vars, .slice a n cap] 24)
  have hx := heap_alloc_new w (.cells #[.int .i64 vars, .slice a n cap] 24)
  generalize hW1 : w.alloc (.cells #[.int .i64 vars, .slice a n cap] 24) = W1 at hB hx
  have C39 := hid (right39 vars a n cap cs W1 hn (hc.below hB))
  have x0 := row_cell hx 0
  have x1 := row_cell hx 1
  simp only [List.getElem?_toArray, List.getElem?_cons_zero, List.getElem?_cons_succ] at x0 x1
  have HB := hid hB
  generalize Cnf.right vars cs = q at C39 hr ⊢
  have hq : (q == 0) = false := by simpa using hr
  have hq2 : (q != 0) = true := by simpa using hr
  clear hx hB hc hn hr
  go_enter Try.func13, Try.ntmps13
  go_wp2_with (go_at_call 39; refine C39.out.mono ?_; clear C39; rintro e W2 ⟨rfl, hB2⟩; have HB2 := hid hB2; clear hB2)
  go_ret2
  exact ⟨rfl, HB.out.trans (HB2.out.mono HB.out.size)⟩

theorem right_zero {vars : Int} {cs : List (List Int)} (h : Cnf.right vars cs = 0) : 0 ≤ vars ∧ vars ≤ 1048576 ∧ cs.length ≤ 1048576 ∧ cs.flatten.length ≤ 16777216 ∧ ∀ l ∈ cs.flatten, 1 ≤ Cnf.vr l ∧ Cnf.vr l ≤ vars := by
  unfold Cnf.right at h
  by_cases h1 : vars < 0 ∨ 1048576 < vars
  · rw [if_pos h1] at h; cases h
  · rw [if_neg h1] at h
    by_cases h2 : 1048576 < cs.length
    · rw [if_pos h2] at h; cases h
    · rw [if_neg h2] at h
      obtain ⟨q1, q2⟩ := Cnf.scan_zero vars cs.flatten 0 h (by omega)
      exact ⟨by omega, by omega, by omega, by omega, q2⟩
set_option maxRecDepth 100000 in
set_option maxHeartbeats 4000000 in
theorem new13 (vars : Int) (a : Option Addr) (n cap : Nat) (cs : List (List Int)) (w : World) (hn : cs.length = n) (hc : Cls w a cs) (hr : Cnf.right vars cs = 0) :
    Calls Try.prog 13 #[.agg #[.int .i64 vars, .slice a n cap]] w fun e w' => NewOut w cs e w' := by
  have hB := below_box w (.cells #[.int .i64 vars, .slice a n cap] 24)
  have hx := heap_alloc_new w (.cells #[.int .i64 vars, .slice a n cap] 24)
  generalize hW1 : w.alloc (.cells #[.int .i64 vars, .slice a n cap] 24) = W1 at hB hx
  have C39 := hid (right39 vars a n cap cs W1 hn (hc.below hB))
  rw [hr] at C39
  have x0 := row_cell hx 0
  have x1 := row_cell hx 1
  simp only [List.getElem?_toArray, List.getElem?_cons_zero, List.getElem?_cons_succ] at x0 x1
  obtain ⟨v0, v1, hcl, hfl, hlit⟩ := right_zero hr
  have HB := hid hB
  have HX := hid hx
  have HC := hid hc
  have HN := hid hn
  have HCL := hid hcl
  have HFL := hid hfl
  have HLI := hid hlit
  have HV := hid (And.intro v0 v1)
  have hmk : ∀ W, (Instr.makeMap 71 (some (.int .i64 n))).run Try.prog W = .ok (.map (some W.heap.size)) (W.alloc (.map #[] 0)) := fun W => by simp [Instr.makeMap, run_underlying Try.underlying71, asInt, asIntOf, Result.andThen]
  clear hx hB hc hn hr hcl hfl hlit v0 v1
  go_enter Try.func13, Try.ntmps13
  go_wp2_with (go_at_call 39; refine C39.out.mono ?_; clear C39; rintro e W2 ⟨rfl, hB2⟩
               have y1 : W2.cell? ⟨w.heap.size, 1, none⟩ = some (.slice a n cap) := (hB2.cell (p := ⟨w.heap.size, 1, none⟩) (Array.getElem?_eq_some_iff.1 HX.out).1).trans x1
               have hB4 : Below W2.heap.size W2 ((W2.alloc (.map #[] 0)).alloc (.cells #[.map (some W2.heap.size), .int .i64 0, .int .i64 0, .slice none 0 0, .bool false, .slice none 0 0, .slice none 0 0] 75)) := (below_box W2 _).trans ((below_box _ _).mono (by simp))
               have hc4 : ((W2.alloc (.map #[] 0)).alloc (.cells #[.map (some W2.heap.size), .int .i64 0, .int .i64 0, .slice none 0 0, .bool false, .slice none 0 0, .slice none 0 0] 75)).heap[W2.heap.size + 1]? = some (.cells #[.map (some W2.heap.size), .int .i64 0, .int .i64 0, .slice none 0 0, .bool false, .slice none 0 0, .slice none 0 0] 75 (0, 0)) := by
                 have h := heap_alloc_new (W2.alloc (.map #[] 0)) (.cells #[.map (some W2.heap.size), .int .i64 0, .int .i64 0, .slice none 0 0, .bool false, .slice none 0 0, .slice none 0 0] 75)
                 simpa using h
               have hm4 : Mp ((W2.alloc (.map #[] 0)).alloc (.cells #[.map (some W2.heap.size), .int .i64 0, .int .i64 0, .slice none 0 0, .bool false, .slice none 0 0, .slice none 0 0] 75)) W2.heap.size 0 (fun _ => none) := (Mp.new W2).same (heap_alloc_old _ _ (by simp))
               generalize hW4 : (W2.alloc (.map #[] 0)).alloc (.cells #[.map (some W2.heap.size), .int .i64 0, .int .i64 0, .slice none 0 0, .bool false, .slice none 0 0, .slice none 0 0] 75) = W4 at hB4 hc4 hm4
               have z1 : W4.cell? ⟨w.heap.size, 1, none⟩ = some (.slice a n cap) := (hB4.cell (p := ⟨w.heap.size, 1, none⟩) (Nat.lt_of_lt_of_le (Array.getElem?_eq_some_iff.1 HX.out).1 hB2.size)).trans y1
               have hB24 : Below w.heap.size w W4 := (HB.out.trans (hB2.mono HB.out.size)).trans (hB4.mono (Nat.le_trans HB.out.size hB2.size))
               have hs2 : w.heap.size ≤ W2.heap.size := Nat.le_trans HB.out.size hB2.size
               have HCK := hid (Ck.new w.heap.size (W2.heap.size + 1) W2.heap.size W4 hs2 (by omega) hB24.size hc4 hm4)
               have HB4 := hid hB24
               clear hB2 hB4 hc4 hm4 hB24 hs2)
  have hnb : n ≤ 1048576 := by rw [← HN.out]; exact HCL.out
  generalize hcb : W2.heap.size + 1 = cb at *
  generalize hbm : W2.heap.size = bm at *
  clear hcb hbm hW4 hmk y1 x0 x1 z1 hW1
  go_loopw [22] (fun i wr => ∃ (k : Nat) (t1 : Option Nat), i = .int .i64 k ∧ k ≤ n ∧ Hid (Ck w.heap.size cb bm t1 none k wr (Ckr.num 1 (cs.take k)) k ((cs.take k).any (fun c => c.isEmpty))) ∧ Hid (Below w.heap.size w wr)) (fun i _ => n - (intOf i).toNat)
  case atStart => exact ⟨0, none, rfl, Nat.zero_le _, HCK, HB4⟩
  case round =>
    clear HCK HB4
    obtain ⟨k, t1, rfl, hk, HCK, HBe⟩ := hrel
    by_cases hlt : k < n
    · have hlt' : (k : Int) < n := by omega
      have hkl : k < cs.length := by rw [HN.out]; exact hlt
      obtain ⟨b, off, a', cap', rfl, hbl, hcell, hL, _⟩ := HC.out.at hkl
      have hcw : wr.cell? ⟨b, off + k, none⟩ = some (.slice a' (cs.getD k []).length cap') := (HBe.out.cell (p := ⟨b, off + k, none⟩) hbl).trans hcell
      have hmem : ∀ x ∈ cs.getD k [], x ∈ cs.flatten := fun x hx => List.mem_flatten.2 ⟨_, Cnf.getD_cls cs k hkl, hx⟩
      have hflen := Cnf.flat_len cs k hkl
      have hfle : ((cs.take (k + 1)).flatten).length ≤ cs.flatten.length := by
        conv => rhs; rw [← List.take_append_drop (k + 1) cs, List.flatten_append, List.length_append]
        omega
      have hf : (Ckr.all (Ckr.num 1 (cs.take k))).length + (cs.getD k []).length ≤ 16777216 := by
        rw [Ckr.num_all]; have := HFL.out; omega
      have hAr : ArgL w.heap.size cb bm t1 none wr a' (cs.getD k []) := HCK.out.arg (hL.below HBe.out) (fun g o e hne => by
        rcases hL.2 with h | ⟨b2, o2, e2, hb2, _⟩
        · exact absurd h hne
        · rw [e] at e2; cases e2; exact hb2)
      have C40 := hid (stand40 w.heap.size cb bm t1 none k wr _ _ _ ((k : Int) + 1) a' _ cap' (cs.getD k []) HCK.out (by unfold maxLen; omega) (by omega) (by omega) rfl hAr (fun x hx => by
        have h1 := HLI.out x (hmem x hx)
        have h2 := HV.out
        unfold Cnf.vr at h1
        split at h1 <;> omega) hf)
      have HN2 := hid (show Ckr.num 1 (cs.take k) ++ [((k : Int) + 1, cs.getD k [])] = Ckr.num 1 (cs.take (k + 1)) by
        rw [Cnf.take_cls cs k hkl, Ckr.num_snoc, List.length_take, Nat.min_eq_left (by omega), Int.add_comm])
      have HA2 := hid (show ((cs.take k).any (fun c => c.isEmpty) || (cs.getD k []).isEmpty) = (cs.take (k + 1)).any (fun c => c.isEmpty) by
        rw [Cnf.take_cls cs k hkl]; simp)
      rw [HN2.out, HA2.out] at C40
      generalize (cs.getD k []).length = nk at hcw C40
      clear hmem hflen hfle hf hAr hL hcell hbl hkl
      go_wp2_with (go_at_call 40; refine C40.out.mono ?_; clear C40; rintro e W5 ⟨rfl, t5, hC5, hF5, hN5⟩
                   have HC5 := hid hC5
                   have HB5 : Hid (Below w.heap.size w W5) := by
                     obtain ⟨q1, q2, q3, q4, q5⟩ := HCK.out.facts
                     exact HBe.out.trans (hF5.below q1 q2 (fun g h => (q3 g h).1) (fun g h => (q4 g h).1) q5)
                   clear hC5 hF5 hN5)
      go_roundw
      case rel => exact ⟨k + 1, t5, by go_num, by omega, hid (by have h := HC5.out; rw [Int.natCast_add]; exact h), HB5⟩
      case measure => simp [intOf]; omega
    · have hge : ¬ (k : Int) < n := by omega
      obtain rfl : k = n := by omega
      have HE : Hid (NewOut w cs (.returned (.tuple #[.pointer (some ⟨cb, 0, none⟩), .int .i64 0])) wr) := by
        refine ⟨cb, bm, t1, none, rfl, ?_, HBe.out⟩
        have h := HCK.out
        rw [List.take_of_length_le (by rw [HN.out]; omega)] at h
        rw [HN.out]
        exact h
      go_wp2
      go_ret2
      exact HE.out
end Go.Proofs.Ytjjanmgeogjngaa

